/- Moved, EngB, EngC, EngD, EngE, EngF, App, StateD0 -/
import Derived.Test.YtblihfpigjiahaaGreatDoorYB15
import Derived.StillTailTactics
import Derived.Deep.RegionHeld3
import Derived.Laws.CopyOwn
import Derived.Test.YtblihfpigjiahaaGreatDoorYB01
import Derived.Test.YtblihfpigjiahaaGreatDoorChecked
import Derived.Laws.AppendOwn
import Derived.Test.YtblihfpigjiahaaGreatDoorYB11
import Derived.Test.YtblihfpigjiahaaGreatDoorYB13
set_option maxRecDepth 100000
set_option maxHeartbeats 8000000
namespace Go.Proofs.YtblihfpigjiahaaGreatDoor
open Go.RowKit
structure Zt (base bs:Nat) (V:Key→Value) (s:St) (w:World) (V':Key→Value) (s':St) (w':World):Prop where
 own:Zg base w' bs V' s'
 os:w'.os=w.os
 tape:w'.tape=w.tape
 output:w'.output=w.output
 size:w.heap.size≤w'.heap.size
 keep:∀ b,b<w.heap.size→b≠bs→Own.off V s b→w'.heap[b]?=w.heap[b]?
 off:∀ b,b<w.heap.size→Own.off V s b→Own.off V' s' b
section
variable {base bs:Nat} {V V' V'':Key→Value} {s s' s'':St} {w w' w'':World}
theorem Zt.of_kept (h:Zg base w bs V s) (k:Za w w'):Zt base bs V s w V s w' :=
 ⟨h.kept k,k.os,k.tape,k.output,k.size,fun b hb _ _=>k.block b hb,fun _ _ h=>h⟩
theorem Zt.refl (h:Zg base w bs V s):Zt base bs V s w V s w:=.of_kept h (Za.refl w)
theorem Zt.trans (h:Zt base bs V s w V' s' w') (k:Zt base bs V' s' w' V'' s'' w''):Zt base bs V s w V'' s'' w'' :=
 ⟨k.own,k.os.trans h.os,k.tape.trans h.tape,k.output.trans h.output,Nat.le_trans h.size k.size,fun b hb hn ho=>(k.keep b (Nat.lt_of_lt_of_le hb h.size) hn (h.off b hb ho)).trans (h.keep b hb hn ho),fun b hb ho=>k.off b (Nat.lt_of_lt_of_le hb h.size) (h.off b hb ho)⟩
theorem Zt.kept (h:Zt base bs V s w V' s' w') (k:Za w' w''):Zt base bs V s w V' s' w'':=h.trans (.of_kept h.own k)
theorem Zt.pre {w0:World} (h:Zt base bs V s w V' s' w') (h0:Zg base w0 bs V s) (k:Za w0 w):Zt base bs V s w0 V' s' w':=(Zt.of_kept h0 k).trans h
theorem Zt.below (h:Zt base bs V s w V' s' w') (h0:Zg base w bs V s):Below base w w' :=
 ⟨h.os,h.tape,h.output,h.size,fun b hb=>h.keep b (by have:=h0.low;have:=lt_of_block h0.var;omega) (by have:=h0.low;omega) (fun k hk e=>by have:=((h0.own.piece k hk).block b e).1;omega)⟩
theorem Zt.lays (h:Zt base bs V s w V' s' w') {b:Nat} {o:Obj} (hb:w.heap[b]?=some o) (hn:b≠bs) (ho:Own.off V s b):w'.heap[b]?=some o :=
 (h.keep b (Array.getElem?_eq_some_iff.1 hb).1 hn ho).trans hb
theorem Zt.set {g i:Nat} {v:Value} (h':Zg base (w.setCell ⟨g,i,none⟩ v) bs V' s') (hg:g=bs∨∃ k,live s k∧(V k).ownBlock=some g)
  (ho:∀ k b,live s' k→(V' k).ownBlock=some b→∃ k',live s k'∧(V k').ownBlock=some b):Zt base bs V s w V' s' (w.setCell ⟨g,i,none⟩ v):=by
 refine ⟨h',rfl,rfl,rfl,by simp [World.setCell],fun b hb hn hoff=>Below.heap_setCell _ _ _ _ (fun e=>?_),fun b hb hoff k hk e=>?_⟩
 ·have e:b=g:=e
  rcases hg with hg | ⟨k,hk,hg⟩
  ·exact hn (e.trans hg)
  ·exact hoff k hk (by rw [hg,e])
 ·obtain ⟨k',hk',e'⟩:=ho k b hk e
  exact hoff k' hk' e'
theorem Zt.grow {w2:World} {K:Key} (hK:live s K) (hgrow:w.grownBy w2 (V K).ownBlock) {g i:Nat} {v:Value} (h':Zg base (w2.setCell ⟨g,i,none⟩ v) bs V' s') (hg:g=bs∨∃ k,live s k∧(V k).ownBlock=some g)
  (ho:∀ k b,live s' k→(V' k).ownBlock=some b→b<w.heap.size→∃ k',live s k'∧(V k').ownBlock=some b):Zt base bs V s w V' s' (w2.setCell ⟨g,i,none⟩ v):=by
 refine ⟨h',hgrow.os,hgrow.tape,hgrow.output,by simpa [World.setCell] using hgrow.size,fun b hb hn hoff=>?_,fun b hb hoff k hk e=>?_⟩
 ·rw [Below.heap_setCell _ _ _ _ (fun e=>?_)]
  ·exact hgrow.block b hb (fun e=>hoff K hK e.symm)
  ·have e:b=g:=e
   rcases hg with hg | ⟨k,hk,hg⟩
   ·exact hn (e.trans hg)
   ·exact hoff k hk (by rw [hg,e])
 ·obtain ⟨k',hk',e'⟩:=ho k b hk e hb
  exact hoff k' hk' e'
theorem Zg.new (h:Zg base w bs V s) {b:Nat} (hb:w.heap.size≤b):b≠bs∧Own.off V s b :=
 ⟨by have:=lt_of_block h.var;omega,h.own.new_off (.inl hb)⟩
theorem Zt.scratch (h:Zt base bs V s w V' s' w') {b i:Nat} {v:Value} (hw:w.heap.size≤b) (hn:b≠bs) (ho:Own.off V' s' b):Zt base bs V s w V' s' (w'.setCell ⟨b,i,none⟩ v):=by
 refine ⟨⟨(Below.heap_setCell _ _ _ _ (fun e=>hn e.symm)).trans h.own.var,h.own.own.setOff (a:=⟨b,i,none⟩) ho v,h.own.off,h.own.low⟩,h.os,h.tape,h.output,by simpa [World.setCell] using h.size,fun c hc hn' hoff=>?_,h.off⟩
 rw [Below.heap_setCell _ _ _ _ (by show c≠b;omega)]
 exact h.keep c hc hn' hoff
theorem Zt.drew (h:Zt base bs V s w V' s' w'):Zt base bs V s w V' s' w'.drew:=h.kept (Za.refl _).drew
theorem Zt.setAt (h:Zg base w bs V s) {i j g cap:Nat} (hi:i<s.fibers.length) (hj:j<(Zc s i).frames.length) (hV:V (.frames i)=.slice (some ⟨g,0,none⟩) (Zc s i).frames.length cap) (a:Int) :
  Zt base bs V s w V (Qc s i j { Ze s i j with at_:=a }) (w.setCell ⟨g,j*4+1,none⟩ (.int .i64 a)) :=
 .set (h.setAt hi hj hV a).1 (.inr ⟨.frames i,hi,by rw [hV];rfl⟩) (fun k b hk e=>⟨k,(Wl _ hi k).1 hk,e⟩)
theorem Zt.setLocal (h:Zg base w bs V s) {i j g cap q:Nat} (hi:i<s.fibers.length) (hj:j<(Zc s i).frames.length) (hV:V (.locals i j)=.slice (some ⟨g,0,none⟩) (Ze s i j).locals.length cap) (z:Int) :
  Zt base bs V s w V (Qc s i j { Ze s i j with locals:=(Ze s i j).locals.set q z }) (w.setCell ⟨g,q,none⟩ (.int .i64 z)) :=
 .set (h.setLocal hi hj hV z).1 (.inr ⟨.locals i j,⟨hi,hj⟩,by rw [hV];rfl⟩) (fun k b hk e=>⟨k,(Wl _ hi k).1 hk,e⟩)
theorem Zt.setNow (h:Zg base w bs V s) (n:Int):Zt base bs V s w V { s with now:=n } (w.setCell ⟨bs,1,none⟩ (.int .i64 n)) :=
 .set (h.setNow n) (.inl rfl) (fun k b hk e=>⟨k,by cases k using Key.by <;> exact hk,e⟩)
theorem Zla {s:St} {i:Nat} {b:Fb} (hi:i<s.fibers.length) (hb:b.frames.length≤(Zc s i).frames.length) (k:Key) (hk:live (Zj s i b) k):live s k:=by
 have hfl:∀ t,(Zc (Zj s i b) t).frames.length≤(Zc s t).frames.length:=fun t=>by
  by_cases e:i=t
  ·subst e;rw [Xu _ hi];exact hb
  ·rw [Qo _ e];exact Nat.le_refl _
 cases k using Key.by with
 | fibers=>trivial
 | out=>trivial
 | frames t=>simpa only [live,Xh] using hk
 | locals t q=>simp only [live,Xh] at hk ⊢;exact ⟨hk.1,Nat.lt_of_lt_of_le hk.2 (hfl t)⟩
 | stack t q=>simp only [live,Xh] at hk ⊢;exact ⟨hk.1,Nat.lt_of_lt_of_le hk.2 (hfl t)⟩
theorem Zt.setCaller (h:Zg base w bs V s) {i g cap:Nat} (hi:i<s.fibers.length) (hV:V .fibers=.slice (some ⟨g,0,none⟩) s.fibers.length cap) (c:Int) :
  Zt base bs V s w V (Zj s i { Zc s i with caller:=c }) (w.setCell ⟨g,i*2+1,none⟩ (.int .i64 c)) :=
 .set (h.setCaller hi hV c).1 (.inr ⟨.fibers,trivial,by rw [hV];rfl⟩) (fun k b hk e=>⟨k,Zla (b:={ Zc s i with caller:=c }) hi (Nat.le_refl _) k hk,e⟩)
theorem Zt.dropFrame (h:Zg base w bs V s) {i gF capF g cap:Nat} (hi:i<s.fibers.length)
  (hF:V .fibers=.slice (some ⟨gF,0,none⟩) s.fibers.length capF) (hV:V (.frames i)=.slice (some ⟨g,0,none⟩) (Zc s i).frames.length cap) :
  Zt base bs V s w (upd V (.frames i) (.slice (some ⟨g,0,none⟩) ((Zc s i).frames.length - 1) cap)) (Zj s i { Zc s i with frames:=(Zc s i).frames.dropLast }) (w.setCell ⟨gF,i*2,none⟩ (.slice (some ⟨g,0,none⟩) ((Zc s i).frames.length - 1) cap)):=by
 refine .set (h.dropFrame hi hF hV).1 (.inr ⟨.fibers,trivial,by rw [hF];rfl⟩) (fun k b hk e=>?_)
 have hl:=Zla (b:={ Zc s i with frames:=(Zc s i).frames.dropLast }) hi (by simp) k hk
 by_cases hkf:k=.frames i
 ·subst hkf
  rw [Qb] at e
  exact ⟨_,hl,by rw [hV];exact e⟩
 ·rw [Zp V _ hkf] at e
  exact ⟨k,hl,e⟩
theorem Zt.turnStack {w2:World} (h:Zg base w bs V s) {i j g cap:Nat} (hi:i<s.fibers.length) (hj:j<(Zc s i).frames.length) (hV:V (.frames i)=.slice (some ⟨g,0,none⟩) (Zc s i).frames.length cap) (vs:Value) (l:List Int)
  (hgrow:w.grownBy w2 (V (.stack i j)).ownBlock) (hown:w2.ownsRow base 3 1 vs l.length (ints l)) (hat:vs.ownBlock=(V (.stack i j)).ownBlock∨vs.ownBlock=some w.heap.size) :
  Zt base bs V s w (upd V (.stack i j) vs) (Qc s i j { Ze s i j with stack:=l }) (w2.setCell ⟨g,j*4+3,none⟩ vs):=by
 refine .grow (K:=.stack i j) ⟨hi,hj⟩ hgrow (h.turnStack hi hj hV vs l hgrow hown hat).1 (.inr ⟨.frames i,hi,by rw [hV];rfl⟩) (fun k b hk e hb=>?_)
 have hl:=(Wl _ hi k).1 hk
 by_cases hks:k=.stack i j
 ·subst hks
  rw [Qb] at e
  rcases hat with h1 | h1
  ·exact ⟨_,hl,by rw [← h1];exact e⟩
  ·rw [e] at h1;cases h1;omega
 ·rw [Zp V _ hks] at e
  exact ⟨k,hl,e⟩
theorem Zt.turnOut {w2:World} (h:Zg base w bs V s) (l:List Int) (vo:Value) (hgrow:w.grownBy w2 (V .out).ownBlock) (hown:w2.ownsRow base 3 1 vo l.length (ints l)) (hat:vo.ownBlock=(V .out).ownBlock∨vo.ownBlock=some w.heap.size) :
  Zt base bs V s w (upd V .out vo) { s with out:=l } (w2.setCell ⟨bs,2,none⟩ vo):=by
 refine .grow (K:=.out) trivial hgrow (h.turnOut l vo hgrow hown hat).1 (.inl rfl) (fun k b hk e hb=>?_)
 have hl:live s k:=by cases k using Key.by <;> exact hk
 by_cases hks:k=.out
 ·subst hks
  rw [Qb] at e
  rcases hat with h1 | h1
  ·exact ⟨_,hl,by rw [← h1];exact e⟩
  ·rw [e] at h1;cases h1;omega
 ·rw [Zp V _ hks] at e
  exact ⟨k,hl,e⟩
structure Yh (bs:Nat) (V:Key→Value) (s:St) (w w':World):Prop where
 os:w'.os=w.os
 tape:w'.tape=w.tape
 output:w'.output=w.output
 size:w.heap.size≤w'.heap.size
 keep:∀ b,b<w.heap.size→b≠bs→Own.off V s b→w'.heap[b]?=w.heap[b]?
theorem Yh.of_kept (k:Za w w'):Yh bs V s w w':=⟨k.os,k.tape,k.output,k.size,fun b hb _ _=>k.block b hb⟩
theorem Zt.past (h:Zt base bs V s w V' s' w') (k:Yh bs V' s' w' w''):Yh bs V s w w'' :=
 ⟨k.os.trans h.os,k.tape.trans h.tape,k.output.trans h.output,Nat.le_trans h.size k.size,fun b hb hn ho=>(k.keep b (Nat.lt_of_lt_of_le hb h.size) hn (h.off b hb ho)).trans (h.keep b hb hn ho)⟩
theorem Yh.below (h:Yh bs V s w w') (h0:Zg base w bs V s):Below base w w' :=
 ⟨h.os,h.tape,h.output,h.size,fun b hb=>h.keep b (by have:=h0.low;have:=lt_of_block h0.var;omega) (by have:=h0.low;omega) (fun k hk e=>by have:=((h0.own.piece k hk).block b e).1;omega)⟩
theorem Yh.lays (h:Yh bs V s w w') {b:Nat} {o:Obj} (hb:w.heap[b]?=some o) (hn:b≠bs) (ho:Own.off V s b):w'.heap[b]?=some o :=
 (h.keep b (Array.getElem?_eq_some_iff.1 hb).1 hn ho).trans hb
end
end Go.Proofs.YtblihfpigjiahaaGreatDoor
namespace Go.Proofs.YtblihfpigjiahaaGreatDoor
open Go.RowKit
theorem Zej {base bs:Nat} {w:World} {V:Key→Value} {s:St} (h:Zg base w bs V s) {i:Nat} (hn:s.now=i) (hr:Zu s i) (oa:Option Addr) (n cp:Nat) :
  ∃ g cap,V (.frames i)=.slice (some ⟨g,0,none⟩) (Zc s i).frames.length cap∧∀ u,Zg base u bs V s→Calls Tryz.prog 89 #[eng bs (.slice oa n cp)] u fun e w'=>e=.returned (.pointer (some ⟨g,((Zc s i).frames.length - 1)*4,none⟩))∧Za u w':=by
 obtain ⟨g,cap,eg,_,_⟩:=h.own.fr hr.lt (j:=0) hr.fr
 refine ⟨g,cap,eg,fun u hu=>?_⟩
 obtain ⟨gF,capF,eF,_,k0,_⟩:=hu.own.fib hr.lt
 obtain ⟨c0,c1,_⟩:=hu.cells
 rw [eF] at c0
 rw [eg] at k0
 rw [hn] at c1
 exact Ztd bs _ capF gF i _ cap g n cp oa u hr.lt hr.fr hr.frs c0 c1 k0
theorem Zfc {base bs:Nat} {w:World} {V:Key→Value} {s:St} (h:Zg base w bs V s) {i:Nat} (hn:s.now=i) (hi:i<s.fibers.length) (oa:Option Addr) (n cp:Nat) :
  ∃ gF capF,V .fibers=.slice (some ⟨gF,0,none⟩) s.fibers.length capF∧∀ u,Zg base u bs V s→Calls Tryz.prog 129 #[eng bs (.slice oa n cp)] u fun e w'=>e=.returned (.pointer (some ⟨gF,i*2,none⟩))∧Za u w':=by
 obtain ⟨gF,capF,eF,_,_⟩:=h.own.fib hi
 refine ⟨gF,capF,eF,fun u hu=>?_⟩
 obtain ⟨c0,c1,_⟩:=hu.cells
 rw [eF] at c0
 rw [hn] at c1
 exact Zmh bs _ capF gF i n cp oa u hi c0 c1
def Zof (base bs:Nat) (V:Key→Value) (s s':St) (kd a:Int) (w:World) (e:Ending) (w':World):Prop:=e=.returned (.agg #[.int .i64 kd,.int .i64 a])∧Zt base bs V s w V s' w'
theorem Zyz (base bs:Nat) (V:Key→Value) (s:St) (i cp bp op n fi ai cb co cl cc:Nat) (kd a:Int) (w:World) (h:Zg base w bs V s) (hd:DoAt base w s i bp op n fi ai cb co cl cc kd a) :
  Calls Tryz.prog 60 #[eng bs (.slice (some ⟨bp,op,none⟩) n cp)] w (Zof base bs V s (Zi s i ai) kd a w):=by
 obtain ⟨g,cap,eg,htop⟩:=Zej h hd.now hd.runs (some ⟨bp,op,none⟩) n cp
 unfold Zi
 generalize hj:(Zc s i).frames.length - 1=j at *
 have hjl:j<(Zc s i).frames.length:=by have:=hd.runs.fr;omega
 have hi:=hd.runs.lt
 have hfn:(Ze s i j).fn=fi:=by rw [← hj];exact hd.fn
 have hat:(Ze s i j).at_=ai:=by rw [← hj];exact hd.at_
 have hfin:=hd.fin
 have hain:=hd.ain
 have hmost:=hd.most
 have HC:=Zb hd.cells
 have HT:=Zb htop
 have HO:=Zb h
 have HEG:=Zb eg
 have hbw:=lt_of_block h.var
 have hlow:=h.low
 have hgw:=((h.own.piece (.frames i) hi).block g (by rw [eg];rfl)).2
 have hglow:=((h.own.piece (.frames i) hi).block g (by rw [eg];rfl)).1
 have hw1:IntKind.i64.wrap ((ai:Int)+1)=(ai:Int)+1:=by rw [IntKind.wrap_i64];omega
 have hw2:IntKind.i64.wrap ((ai:Int)+1 - 1)=(ai:Int):=by rw [IntKind.wrap_i64];omega
 have hw3:IntKind.i64.wrap (ai:Int)=(ai:Int):=by rw [IntKind.wrap_i64];omega
 have ha1:(ai:Int)+1 - 1=(ai:Int):=by omega
 have ha0:(0:Int)≤(ai:Int):=by omega
 have ha2:(ai:Int)<(cl:Int):=by omega
 have hf0:(0:Int)≤(fi:Int):=by omega
 have hf2:(fi:Int)<(n:Int):=by omega
 clear htop h hd eg hj
 go_enter Tryz.func60,Tryz.ntmps60
 go_wp2_with fail
 generalize hwb:(w.alloc (.cells #[.pointer (some ⟨bs,0,none⟩),.slice (some ⟨bp,op,none⟩) n cp] 93)).alloc (.cells #[.int .i64 0,.int .i64 0] 66)=wb
 have hkb:Za w wb:=by rw [← hwb];exact ((Za.refl w).alloc _).alloc _
 have lB0:wb.heap[w.heap.size]?=some (.cells #[.pointer (some ⟨bs,0,none⟩),.slice (some ⟨bp,op,none⟩) n cp] 93):=by rw [← hwb];exact Zo (Zh rfl) _
 have lB1:wb.heap[w.heap.size+1]?=some (.cells #[.int .i64 0,.int .i64 0] 66):=by rw [← hwb];exact Zh (by simp)
 have hob:Zg base wb bs V s:=(un HO).kept hkb
 refine ((un HT) wb hob).mono ?_
 rintro e w1 ⟨rfl,hk1⟩
 have ho1:=hob.kept hk1
 have l10:=Zn hk1 lB0
 have l11:=Zn hk1 lB1
 have hk01:=hkb.trans hk1
 obtain ⟨g',cap',eg',_,f0,f1,f2,f3,ffz,_⟩:=ho1.own.fr hi hjl
 rw [un HEG] at eg'
 obtain ⟨⟨rfl⟩,-,rfl⟩:=(by simpa using eg':(g=g')∧True∧cap=cap')
 rw [hfn] at f0
 rw [hat] at f1
 have hfz:=ffz (j*4+1)
 have HM:=Zb (Zt.setAt ho1 hi hjl (un HEG) ((ai:Int)+1))
 have HK01:=Zb hk01
 have HL10:=Zb l10
 have HL11:=Zb l11
 clear hwb hob hk01 hk1 ho1 eg' ffz f2 f3 hkb lB0 lB1
 go_upto_region 3 with fail
 generalize hW2:w1.setCell ⟨g,j*4+1,none⟩ (.int .i64 ((ai:Int)+1))=w2 at *
 have g0:w2.cell? ⟨g,j*4,none⟩=some (.int .i64 fi):=by rw [← hW2];exact (World.cell?_setCell_other _ _ _ _ (by simp)).trans f0
 have g1:w2.cell? ⟨g,j*4+1,none⟩=some (.int .i64 ((ai:Int)+1)):=by rw [← hW2];exact World.cell?_setCell_same _ _ _ f1
 have m0:w2.heap[w.heap.size]?=some (.cells #[.pointer (some ⟨bs,0,none⟩),.slice (some ⟨bp,op,none⟩) n cp] 93):=by rw [← hW2];exact Xp (un HL10) (by simp only;omega) _
 have m1:w2.heap[w.heap.size+1]?=some (.cells #[.int .i64 0,.int .i64 0] 66):=by rw [← hW2];exact Xp (un HL11) (by simp only;omega) _
 have HM2:=Zb ((un HM).pre (un HO) (un HK01))
 obtain ⟨p0,p1,p2⟩:=(un HC) w2 ((un HM2).below (un HO))
 have b1:w2.cell? ⟨w.heap.size,1,none⟩=some (.slice (some ⟨bp,op,none⟩) n cp):=Zd m0 1
 have r0:w2.cell? ⟨w.heap.size+1,0,none⟩=some (.int .i64 0):=Zd m1 0
 have r1:w2.cell? ⟨w.heap.size+1,1,none⟩=some (.int .i64 0):=Zd m1 1
 have z0:=Zk m1 0
 have z1:=Zk m1 1
 have HM1:=Zb m1
 clear hW2 m0 m1 f0 f1 hfz HC HT
 go_still_tail 16,(by kernel_rfl)
 go_wp2
 have hB1:=(un HO).new (b:=w.heap.size+1) (by omega)
 have hoff:=(un HM).off (w.heap.size+1) (Array.getElem?_eq_some_iff.1 (un HL11)).1 hB1.2
 have q0:=Zd (Zm (Zm (un HM1) 0 (.int .i64 kd)) 1 (.int .i64 a)) 0
 have q1:=Zd (Zm (Zm (un HM1) 0 (.int .i64 kd)) 1 (.int .i64 a)) 1
 refine bodyPost_ret (v:=.agg #[.int .i64 kd,.int .i64 a]) (by simp [results,Tryz.results60,go_sem,q0,q1]) rfl ⟨rfl,?_⟩
 exact (((un HM2).scratch (by omega) hB1.1 hoff).scratch (by omega) hB1.1 hoff).drew
def Zqq (base bs:Nat) (V:Key→Value) (s:St) (i j t:Nat) (l:List Int) (w:World) (e:Ending) (w':World):Prop :=
 ∃ v V',e=.returned v∧Xj w' v (l.drop t)∧Zt base bs V s w V' (Qc s i j { Ze s i j with stack:=l.take t }) w'∧∀ K,K≠.stack i j→V' K=V K
theorem Zuc {w:World} {base:Nat} {n cap:Nat} {l:List Int} (h:w.ownsRow base 3 1 (.slice none n cap) l.length (ints l)):l=[]∧n=0∧cap=0:=by
 obtain ⟨oa,c,e,h1⟩:=Zw h
 simp only [Value.slice.injEq] at e
 obtain ⟨rfl,rfl,rfl⟩:=e
 rcases h1 with ⟨_,h0⟩ | ⟨g,hg,_⟩
 ·rcases h.2 with ⟨e,_⟩ | ⟨g,cap,cur,e,_⟩
  ·simp only [Value.slice.injEq] at e
   exact ⟨List.length_eq_zero_iff.1 h0,e.2.1,e.2.2⟩
  ·simp at e
 ·cases hg
theorem Zlw (base bs:Nat) (V:Key→Value) (s:St) (i k n cp:Nat) (oa:Option Addr) (w:World) (h:Zg base w bs V s) (hn:s.now=i) (hr:Zu s i) (hk:k≤(Ze s i ((Zc s i).frames.length - 1)).stack.length) :
  Calls Tryz.prog 128 #[eng bs (.slice oa n cp),.int .i64 k] w (Zqq base bs V s i ((Zc s i).frames.length - 1) ((Ze s i ((Zc s i).frames.length - 1)).stack.length - k) (Ze s i ((Zc s i).frames.length - 1)).stack w):=by
 obtain ⟨g,cap,eg,htop⟩:=Zej h hn hr oa n cp
 generalize hj:(Zc s i).frames.length - 1=j at *
 have hjl:j<(Zc s i).frames.length:=by have:=hr.fr;omega
 have hi:=hr.lt
 have hst:(Ze s i j).stack.length≤1000:=by rw [← hj];exact hr.st
 generalize hl:(Ze s i j).stack=l at *
 obtain ⟨t,ht⟩:∃ t,l.length=t+k:=⟨l.length - k,by omega⟩
 have hsub:l.length - k=t:=by omega
 rw [hsub]
 have HT:=Zb htop
 have HO:=Zb h
 have HEG:=Zb eg
 have HL:=Zb hl
 have HTL:=Zb ht
 have hgw:=((h.own.piece (.frames i) hi).block g (by rw [eg];rfl)).2
 have hw1:IntKind.i64.wrap (((t+k:Nat):Int) - (k:Int))=(t:Int):=by rw [IntKind.wrap_i64];omega
 have hw2:IntKind.i64.wrap ((t:Int)+(k:Int) - (k:Int))=(t:Int):=by rw [IntKind.wrap_i64];omega
 have hw3:IntKind.i64.wrap (t:Int)=(t:Int):=by rw [IntKind.wrap_i64];omega
 have ht0:(0:Int)≤(t:Int):=by omega
 have ht1:(t:Int)≤((t+k:Nat):Int):=by omega
 have ht2:(t:Int)≤(t:Int)+(k:Int):=by omega
 clear htop h eg hj hl
 go_enter Tryz.func128,Tryz.ntmps128
 go_wp2_with fail
 generalize hwb:w.alloc (.cells #[.pointer (some ⟨bs,0,none⟩),.slice oa n cp] 93)=wb
 have hkb:Za w wb:=by rw [← hwb];exact (Za.refl w).alloc _
 have hob:Zg base wb bs V s:=(un HO).kept hkb
 refine ((un HT) wb hob).mono ?_
 rintro e w1 ⟨rfl,hk1⟩
 have ho1:=hob.kept hk1
 have hk01:=hkb.trans hk1
 obtain ⟨g',cap',eg',_,f0,f1,f2,f3,ffz,_⟩:=ho1.own.fr hi hjl
 rw [un HEG] at eg'
 obtain ⟨⟨rfl⟩,-,rfl⟩:=(by simpa using eg':(g=g')∧True∧cap=cap')
 have hs:=ho1.own.stk hi hjl
 rw [un HL] at hs
 have hfz:=ffz (j*4+3)
 have HM0:=Zb (Zt.of_kept (un HO) hk01)
 have HO1:=Zb ho1
 clear hwb hob hk01 hk1 ho1 eg' ffz f0 f1 f2 hkb HT
 obtain ⟨os,cs,es,hrow⟩:=Zw hs
 rw [es] at f3 hs
 have HES:=Zb es
 cases os with
 | none =>
  obtain ⟨rfl,hz,rfl⟩:=Zuc hs
  simp only [List.length_nil] at ht f3
  obtain rfl:t=0:=by omega
  obtain rfl:k=0:=by omega
  clear hrow es hs
  go_wp2
  go_ret
  refine ⟨_,upd V (.stack i j) (.slice none 0 0),rfl,Xj.nil _,?_,fun K hK=>Zp V _ hK⟩
  have hm:=Zt.turnStack (un HO1) (w2:=w1) hi hjl (un HEG) (.slice none 0 0) [] (Zic _ _) (World.ownsRow_nil _ _ _ _) (.inl (by rw [un HES];rfl))
  exact (un HM0).trans hm
 | some ad =>
  rcases hrow with ⟨h0,_⟩ | ⟨gs,e0,hcell⟩
  ·cases h0
  obtain rfl:ad=⟨gs,0,none⟩:=by simpa using e0
  have hcs:l.length≤cs:=Zlt hs
  rw [ht] at f3
  have hc1:(t:Int)≤(cs:Int):=by omega
  have hc2:((t+k:Nat):Int)≤(cs:Int):=by omega
  have HS:=Zb hs
  have HCL:=Zb hcell
  clear es hs e0 hcell
  have hrow:w1.ownsRow base 3 1 (.slice (some ⟨gs,0,none⟩) t cs) (l.take t).length (ints (l.take t)):=by
   rw [List.length_take,Nat.min_eq_left (by omega)]
   exact Zoe (un HS) rfl t (by omega)
  have HM:=Zb ((un HM0).trans (Zt.turnStack (un HO1) (w2:=w1) hi hjl (un HEG) (.slice (some ⟨gs,0,none⟩) t cs) (l.take t) (Zic _ _) hrow (.inl (by rw [un HES];rfl))))
  have hgs:gs≠g:=by
   rintro rfl
   have:=(un HO1).own.apart (.stack i j) (.frames i) gs ⟨hi,hjl⟩ hi (by rw [un HES];rfl) (by rw [un HEG];rfl)
   cases this
  clear hrow
  by_cases hct:cs=t
  ·subst hct
   go_wp2
   go_ret
   refine ⟨_,_,rfl,?_,un HM,fun K hK=>Zp V _ hK⟩
   obtain rfl:k=0:=by omega
   rw [List.drop_eq_nil_of_le (by omega)]
   exact ⟨_,_,rfl,by simp,fun q z hz=>by simp at hz⟩
  ·go_wp2
   go_ret
   refine ⟨_,_,rfl,?_,un HM,fun K hK=>Zp V _ hK⟩
   have hdl:(l.drop t).length=k:=by rw [List.length_drop];omega
   refine ⟨some ⟨gs,t,none⟩,cs - t,by rw [hdl];rfl,by omega,fun q z hz=>⟨gs,t,rfl,?_⟩⟩
   rw [List.getElem?_drop] at hz
   exact Zbh ((un HCL) (t+q) _ (Zaa hz)) hgs _
def Jq (base bs:Nat) (V:Key→Value) (s s':St) (r:Value) (w:World) (e:Ending) (w':World):Prop:=e=.returned r∧∃ V',Zt base bs V s w V' s' w'
theorem Znd (base bs:Nat) (V:Key→Value) (s:St) (i n cp:Nat) (oa:Option Addr) (w:World) (h:Zg base w bs V s) (hn:s.now=i) (hr:Zu s i) (hk:0<(Ze s i ((Zc s i).frames.length - 1)).stack.length) :
  Calls Tryz.prog 88 #[eng bs (.slice oa n cp)] w (fun e w'=>e=.returned (.int .i64 (Zl s))∧∃ V',Zt base bs V s w V' (Zf s) w'∧∀ K,K≠.stack i ((Zc s i).frames.length - 1)→V' K=V K):=by
 have hlast:Zl s=(Ze s i ((Zc s i).frames.length - 1)).stack.getD ((Ze s i ((Zc s i).frames.length - 1)).stack.length - 1) 0:=by
  unfold Zl
  rw [Zak hn,List.getLast?_eq_getElem?]
  rfl
 have hpull:Zf s=Qc s i ((Zc s i).frames.length - 1) { Ze s i ((Zc s i).frames.length - 1) with stack:=(Ze s i ((Zc s i).frames.length - 1)).stack.take ((Ze s i ((Zc s i).frames.length - 1)).stack.length - 1) }:=by
  rw [Yj hn,List.dropLast_eq_take]
 have hb:∀ o,Zg base (w.alloc o) bs V s:=fun o=>h.alloc o
 have HC:=Zb (fun o=>Zlw base bs V s i 1 n cp oa (w.alloc o) (hb o) hn hr hk)
 rw [hlast,hpull]
 generalize hj:(Zc s i).frames.length - 1=j at *
 generalize hl:(Ze s i j).stack=l at *
 have HO:=Zb h
 clear hb hlast hpull h
 go_enter Tryz.func88,Tryz.ntmps88
 go_wp2_with fail
 refine ((un HC) _).mono ?_
 rintro e w1 ⟨v,V',rfl,⟨ov,cv,rfl,_,hcell⟩,hm,hV⟩
 have hdl:(l.drop (l.length - 1)).length=1:=by rw [List.length_drop];omega
 rw [hdl]
 obtain ⟨bv,offv,rfl,hc⟩:=hcell 0 (l.getD (l.length - 1) 0) (by
  rw [List.getElem?_drop,Nat.add_zero]
  exact Zs _ _ _ (by omega))
 rw [Nat.add_zero] at hc
 have HM:=Zb (hm.pre (un HO) ((Za.refl w).alloc _))
 have HV:=Zb hV
 clear hm hcell hV
 go_wp2
 go_ret
 exact ⟨rfl,V',un HM,un HV⟩
theorem Zan (base bs:Nat) (V:Key→Value) (s:St) (i n cp:Nat) (oa:Option Addr) (w:World) (h:Zg base w bs V s) (hn:s.now=i) (hr:Zu s i) (hk:0<(Ze s i ((Zc s i).frames.length - 1)).stack.length) :
  Calls Tryz.prog 88 #[eng bs (.slice oa n cp)] w (Jq base bs V s (Zf s) (.int .i64 (Zl s)) w) :=
 (Znd base bs V s i n cp oa w h hn hr hk).mono fun _ _ ⟨h1,V',h2,_⟩=>⟨h1,V',h2⟩
theorem Znl:∃ i0,Tryz.prog.info? 3=some i0∧i0.zero=some (.int .i64 0)∧i0.size=1∧i0.bytes=8:=info_parts Zai
theorem Zbg (base bs:Nat) (V:Key→Value) (s:St) (i n cp B:Nat) (oa:Option Addr) (z:Int) (w:World) (h:Zg base w bs V s) (hn:s.now=i) (hr:Zu s i) (hB:w.cell? ⟨B,0,none⟩=some (.int .i64 z)) :
  Calls Tryz.prog 87 #[eng bs (.slice oa n cp),.slice (some ⟨B,0,none⟩) 1 1] w (Jq base bs V s (Zy s i z) (.tuple #[]) w):=by
 obtain ⟨i0,hi0,hz0,hz1,hz2⟩:=Znl
 obtain ⟨g,cap,eg,htop⟩:=Zej h hn hr oa n cp
 unfold Zy
 rw [Uj]
 generalize hj:(Zc s i).frames.length - 1=j at *
 have hjl:j<(Zc s i).frames.length:=by have:=hr.fr;omega
 have hi:=hr.lt
 have hst:(Ze s i j).stack.length≤1000:=by rw [← hj];exact hr.st
 generalize hl:(Ze s i j).stack=l at *
 have HT:=Zb htop
 have HO:=Zb h
 have HEG:=Zb eg
 have HL:=Zb hl
 have hgw:=((h.own.piece (.frames i) hi).block g (by rw [eg];rfl)).2
 have hbw:base≤w.heap.size:=by have:=h.low;have:=lt_of_block h.var;omega
 clear htop h eg hj hl
 go_enter Tryz.func87,Tryz.ntmps87
 go_wp2_with fail
 generalize hwb:w.alloc (.cells #[.pointer (some ⟨bs,0,none⟩),.slice oa n cp] 93)=wb
 have hkb:Za w wb:=by rw [← hwb];exact (Za.refl w).alloc _
 have hob:Zg base wb bs V s:=(un HO).kept hkb
 refine ((un HT) wb hob).mono ?_
 rintro e w1 ⟨rfl,hk1⟩
 have ho1:=hob.kept hk1
 have hk01:=hkb.trans hk1
 have hB1:w1.cell? ⟨B,0,none⟩=some (.int .i64 z):=hk01.cell hB
 have hnews:∀ q u,[Value.int .i64 z][q]?=some u→w1.cell? ((⟨B,0,none⟩:Addr).add q)=some u:=by
  intro q u hq
  match q,hq with
  | 0,hq=>simp at hq;subst hq;exact hB1
 obtain ⟨g',cap',eg',_,f0,f1,f2,f3,ffz,_⟩:=ho1.own.fr hi hjl
 rw [un HEG] at eg'
 obtain ⟨⟨rfl⟩,-,rfl⟩:=(by simpa using eg':(g=g')∧True∧cap=cap')
 have hs:=ho1.own.stk hi hjl
 rw [un HL] at hs
 have hfz:=ffz (j*4+3)
 have hlg:=Xm f0
 simp only at hlg
 have hbw1:base≤w1.heap.size:=Nat.le_trans hbw hk01.size
 have hgs:(V (.stack i j)).ownBlock≠some g:=fun e=>by
  have:=ho1.own.apart (.stack i j) (.frames i) g ⟨hi,hjl⟩ hi e (by rw [un HEG];rfl)
  cases this
 have HM0:=Zb (Zt.of_kept (un HO) hk01)
 have HO1:=Zb ho1
 have HS:=Zb hs
 have HN:=Zb hnews
 generalize hvs:V (.stack i j)=vs0 at *
 have HVS:=Zb hvs
 clear hwb hob hk01 hk1 ho1 eg' ffz f0 f1 f2 hkb HT hs hvs hnews hB1 hB
 go_wp2_with (at_builtin;refine wpList_append_own_at _ rfl _ _ 24 rfl base 3 i0 (.int .i64 0) 1 8 Tryz.underlying24 hi0 hz0 hz1 hz2 rfl (by decide) _ _ _ rfl (un HS) ⟨B,0,none⟩ 1 1 [.int .i64 z] rfl rfl (un HN) (Zcr _) (by unfold maxLen;omega) (by omega) hbw1 ?_;intro v' w2 hown' hgrow _ hat;obtain ⟨o2,c2,rfl,-⟩:=Zw hown';have g3:w2.cell? ⟨g,j*4+3,none⟩=some vs0:=hgrow.cell f3 (fun e=>hgs e.symm);have gz:w2.frozen? ⟨g,j*4+3,none⟩=false:=(World.frozen?_of_block (hgrow.block g hlg (fun e=>hgs e.symm))).trans hfz;have HOW:=Zb hown';have HGR:=Zb hgrow;have HAT:=Zb hat;clear hown' hgrow hat)
 go_end0
 refine ⟨rfl,upd V (.stack i j) (.slice o2 (l.length+1) c2),?_⟩
 refine (un HM0).trans (Zt.turnStack (un HO1) (w2:=w2) hi hjl (un HEG) (.slice o2 (l.length+1) c2) (l++[z]) (by rw [un HVS];exact un HGR) (by rw [Zcz,List.length_append];exact un HOW) (by rw [un HVS];exact un HAT))
theorem Zkd (b:Bool) (w:World):Calls Tryz.prog 95 #[.bool b] w fun e w'=>e=.returned (.int .i64 (Zde b))∧w=w':=by
 cases b with
 | true =>
  go_enter Tryz.func95,Tryz.ntmps95
  go_wp2
  go_ret
  exact ⟨rfl,rfl⟩
 | false =>
  go_enter Tryz.func95,Tryz.ntmps95
  go_wp2
  go_ret
  exact ⟨rfl,rfl⟩
def Zco (k:Nat) (kd:Int):Prop:=∀ (a b:Int) (w:World),Calls Tryz.prog k #[.int .i64 a,.int .i64 b] w fun e w'=>e=.returned (.int .i64 (Jl kd a b))∧w=w'
theorem Zzz:Zco 91 4:=by
 intro a b w
 rw [show Jl 4 a b=Zaw (a+b) from rfl,← Zcv]
 go_enter Tryz.func91,Tryz.ntmps91
 go_wp2
 go_ret
 exact ⟨rfl,rfl⟩
theorem Zph:Zco 92 5:=by
 intro a b w
 rw [show Jl 5 a b=Zaw (a - b) from rfl,← Zcv]
 go_enter Tryz.func92,Tryz.ntmps92
 go_wp2
 go_ret
 exact ⟨rfl,rfl⟩
theorem Zyv:Zco 93 6:=by
 intro a b w
 rw [show Jl 6 a b=Zaw (a*b) from rfl,← Zcv]
 go_enter Tryz.func93,Tryz.ntmps93
 go_wp2
 go_ret
 exact ⟨rfl,rfl⟩
theorem Zqw:Zco 94 7:=by
 intro a b w
 rw [show Jl 7 a b=Zde (decide (a<b)) from rfl]
 go_enter Tryz.func94,Tryz.ntmps94
 go_wp2_with (go_at_call 95;refine (Zkd _ _).mono ?_;rintro e w' ⟨rfl,rfl⟩)
 go_ret
 exact ⟨rfl,rfl⟩
theorem Zsa:Zco 96 8:=by
 intro a b w
 rw [show Jl 8 a b=Zde (decide (a=b)) from rfl]
 go_enter Tryz.func96,Tryz.ntmps96
 go_wp2_with (go_at_call 95;refine (Zkd _ _).mono ?_;rintro e w' ⟨rfl,rfl⟩)
 go_ret
 exact ⟨rfl,rfl⟩
theorem Zeh (k:Nat) (kd:Int) (hk5:k=91∨k=92∨k=93∨k=94∨k=96) (hre:Zco k kd) (base bs:Nat) (V:Key→Value) (s:St) (i n cp:Nat) (oa:Option Addr) (w:World) (h:Zg base w bs V s) (hn:s.now=i) (hr:Zu s i) (hk:2≤(Ze s i ((Zc s i).frames.length - 1)).stack.length) :
  Calls Tryz.prog 90 #[eng bs (.slice oa n cp),.func (.func k) #[] #[]] w (Jq base bs V s (Zy (Zf (Zf s)) i (Jl kd (Zl (Zf s)) (Zl s))) (.tuple #[]) w):=by
 obtain ⟨hn1,hr1,hs1⟩:=Zbi hn hr
 obtain ⟨hn2,hr2,_⟩:=Zbi hn1 hr1
 have hk1:0<(Ze (Zf s) i ((Zc (Zf s) i).frames.length - 1)).stack.length:=by rw [hs1];simp;omega
 have HR:=Zb hr
 have HR1:=Zb hr1
 have HR2:=Zb hr2
 have HO:=Zb h
 have HRE:=Zb hre
 generalize hs1':Zf s=s1 at *
 generalize hs2':Zf s1=s2 at *
 generalize hz:Zl s=z at *
 generalize hz1:Zl s1=z1 at *
 have HTK:Hid (∀ u V',Zg base u bs V' s→Calls Tryz.prog 88 #[eng bs (.slice oa n cp)] u (Jq base bs V' s s1 (.int .i64 z) u)):=Zb (fun u V' hu=>by
  have:=Zan base bs V' s i n cp oa u hu hn (un HR) (by omega);rw [hs1',hz] at this;exact this)
 have HTK1:Hid (∀ u V',Zg base u bs V' s1→Calls Tryz.prog 88 #[eng bs (.slice oa n cp)] u (Jq base bs V' s1 s2 (.int .i64 z1) u)):=Zb (fun u V' hu=>by
  have:=Zan base bs V' s1 i n cp oa u hu hn1 (un HR1) hk1;rw [hs2',hz1] at this;exact this)
 clear hs1' hs2' hz hz1 hs1 h hre hr hr1 hr2
 rcases hk5 with rfl | rfl | rfl | rfl | rfl
 all_goals
  go_enter Tryz.func90,Tryz.ntmps90
  go_wp2_with fail
  generalize hwb:w.alloc (.cells #[.pointer (some ⟨bs,0,none⟩),.slice oa n cp] 93)=wb
  have hkb:Za w wb:=by rw [← hwb];exact (Za.refl w).alloc _
  have hob:Zg base wb bs V s:=(un HO).kept hkb
  have lB:wb.heap[w.heap.size]?=some (.cells #[.pointer (some ⟨bs,0,none⟩),.slice oa n cp] 93):=by rw [← hwb];exact Zh rfl
  obtain ⟨hBn,hBo⟩:=(un HO).new (b:=w.heap.size) (by omega)
  refine ((un HTK) wb V hob).mono ?_
  rintro e w1 ⟨rfl,V1,hm1⟩
  have l1:=hm1.lays lB hBn hBo
  have hBo1:=hm1.off _ (Array.getElem?_eq_some_iff.1 lB).1 hBo
  have hm01:=hm1.pre (un HO) hkb
  have b0:w1.cell? ⟨w.heap.size,0,none⟩=some (.pointer (some ⟨bs,0,none⟩)):=Zd l1 0
  have b1:w1.cell? ⟨w.heap.size,1,none⟩=some (.slice oa n cp):=Zd l1 1
  have HM:=Zb hm01
  have HL1:=Zb l1
  have HBO:=Zb hBo1
  clear hm1 hm01 hwb hkb hob lB l1 hBo hBo1 HTK
  go_upto_region 2 with fail
  have HKP:Hid (∀ V2 s' u,Zt base bs V1 s1 w1.drew V2 s' u→u.cell? ⟨w.heap.size,0,none⟩=some (.pointer (some ⟨bs,0,none⟩))∧u.cell? ⟨w.heap.size,1,none⟩=some (.slice oa n cp)):=Zb (fun V2 s' u hm =>
   have l2:=hm.lays (Xc (un HL1)) hBn (un HBO)
   ⟨Zd l2 0,Zd l2 1⟩)
  have HPUT:Hid (∀ V2 u x,Zg base u bs V2 s2→Calls Tryz.prog 87 #[eng bs (.slice oa n cp),.slice (some ⟨u.heap.size,0,none⟩) 1 1] (u.alloc (.cells #[.int .i64 x] 3)) (Jq base bs V2 s2 (Zy s2 i x) (.tuple #[]) (u.alloc (.cells #[.int .i64 x] 3)))):=Zb (fun V2 u x hu =>
   Zbg base bs V2 s2 i n cp u.heap.size oa x _ (hu.alloc _) hn2 (un HR2) (Zd (Zh rfl) 0))
  have HREC:=Zb (fun a b u=>(un HRE) a b u)
  go_region_held3 (fun w'=>w'.cell? ⟨w.heap.size,0,none⟩=some (.pointer (some ⟨bs,0,none⟩))∧w'.cell? ⟨w.heap.size,1,none⟩=some (.slice oa n cp)) (first | go_keep | exact (un HKP) _ _ _ ((hm2.kept ((Za.refl _).alloc _)).trans hm3) | exact (un HKP) _ _ _ hm2)
   (first
    | (go_at_call 88;refine ((un HTK1) _ V1 (un HM).drew.own).mono ?_;rintro e w2 ⟨rfl,V2,hm2⟩)
    | (go_at_call 87;refine ((un HPUT) V2 _ _ hm2.own).mono ?_;rintro e w3 ⟨rfl,V3,hm3⟩)
    | ((first | go_at_call 91 | go_at_call 92 | go_at_call 93 | go_at_call 94 | go_at_call 96);refine ((un HREC) _ _ _).mono ?_;rintro e w2' ⟨rfl,rfl⟩))
  go_wp2
  go_end0
  exact ⟨rfl,V3,(un HM).drew.trans ((hm2.kept ((Za.refl _).alloc _)).trans hm3)⟩
def Zgz (f lo:Nat) (l:List Int) (w:World) (e:Ending) (w':World):Prop :=
 ∃ BL,e=.returned (.agg #[.int .i64 f,.int .i64 0,.slice (some ⟨BL,0,none⟩) lo lo,.slice none 0 0])∧w'.heap[BL]?=some (.cells (ints l).toArray 3)∧w.heap.size≤BL∧Za w w'
theorem Xdl (w:World) (B lo m cv:Nat) (ov:Option Addr) (vals:List Int) (hm:vals.length=m) (hl:m≤lo) (hg:w.heap[B]?=some (.cells (ints (List.replicate lo 0)).toArray 3)) (hv:∀ i z,vals[i]?=some z→∃ b o,ov=some ⟨b,o,none⟩∧w.cell? ⟨b,o+i,none⟩=some (.int .i64 z)) :
  ∃ w',(Builtin.copy_ #[24,24] 3 #[.slice (some ⟨B,0,none⟩) lo lo,.slice ov m cv]).run Tryz.prog w=.ok (goInt m) w'∧w'.heap[B]?=some (.cells (ints (vals++List.replicate (lo - m) 0)).toArray 3)∧Below B w w':=by
 have hz:(Tryz.prog.info? 3).map (·.size)=some 1:=by kernel_rfl
 by_cases h0:m=0
 ·subst h0
  obtain rfl:=List.length_eq_zero_iff.1 hm
  exact ⟨w,run_copy_none (P:=Tryz.prog) w 24 24 3 3 _ _ _ _ _ _ Tryz.underlying24 hz (by simp),hg,Below.refl _ _⟩
 ·obtain ⟨b,o,rfl,_⟩:=hv 0 _ (Zs vals 0 0 (by omega))
  have hr:=run_copy_row (P:=Tryz.prog) w 24 24 3 3 B 0 lo lo ⟨b,o,none⟩ m cv (ints (List.replicate lo 0)).toArray 3 (ints vals) Tryz.underlying24 hz hg (by rw [Pm,hm];exact (Nat.min_eq_left hl).symm) (fun j v hj=>by
   simp only [ints,List.getElem?_map,Option.map_eq_some_iff] at hj
   obtain ⟨z,hz,rfl⟩:=hj
   obtain ⟨b',o',e',h'⟩:=hv j z hz
   obtain ⟨rfl,rfl⟩:=(by simpa using e':b=b'∧o=o')
   have:(⟨b,o,none⟩:Addr).add j=⟨b,o+j,none⟩:=by unfold Addr.add;split <;> simp_all
   rw [this]
   exact h') (by simp [ints];omega) (fun v hv=>by simp only [ints,List.mem_map] at hv;obtain ⟨z,_,rfl⟩:=hv;rfl)
  rw [Pm,hm] at hr
  refine ⟨_,hr,?_,below_setRow (Below.refl _ _) (Nat.le_refl _) _⟩
  rw [setRow_heap w B _ _ _ _ hg]
  simp [ints]
theorem Zon (bs f lo n cp bp op:Nat) (vv:Value) (vals:List Int) (w:World) (hf:f<n) (hlo:lo≤1000) (hv:Xj w vv vals) (hvl:vals.length≤lo) (hp:w.cell? ⟨bp,op+f*3+1,none⟩=some (.int .i64 lo)) :
  Calls Tryz.prog 130 #[eng bs (.slice (some ⟨bp,op,none⟩) n cp),.int .i64 f,vv] w (Zgz f lo (vals++List.replicate (lo - vals.length) 0) w):=by
 obtain ⟨ov,cv,rfl,hvm,hcell⟩:=hv
 have hf0:(0:Int)≤(f:Int):=by omega
 have hf1:(f:Int)<(n:Int):=by omega
 have hmk:=Zbj lo (by omega)
 have hl0:(0:Int)≤(lo:Int):=by omega
 have d1:∀ o o',((w.alloc o).alloc o').cell? ⟨bp,op+f*3+1,none⟩=some (.int .i64 lo):=fun o o'=>(((Za.refl w).alloc o).alloc o').cell hp
 have HC:=Zb hcell
 generalize hL:vals++List.replicate (lo - vals.length) 0=L
 have HL:=Zb hL
 generalize hm:vals.length=m at *
 have HM:=Zb hm
 clear hcell hL hm
 go_enter Tryz.func130,Tryz.ntmps130
 go_upto_region 2 with fail
 generalize hw2:((w.alloc (.cells #[.pointer (some ⟨bs,0,none⟩),.slice (some ⟨bp,op,none⟩) n cp] 93)).alloc (.cells #[.int .i64 0,.int .i64 0,.slice none 0 0,.slice none 0 0] 48)).alloc (.cells (Array.replicate lo (.int .i64 0)) 3)=w2
 have hk2:Za w w2:=by rw [← hw2];exact (((Za.refl w).alloc _).alloc _).alloc _
 have l1:w2.heap[w.heap.size+1]?=some (.cells #[.int .i64 0,.int .i64 0,.slice none 0 0,.slice none 0 0] 48):=by rw [← hw2];exact Zo (Zh (by simp)) _
 have l2:w2.heap[w.heap.size+1+1]?=some (.cells (ints (List.replicate lo 0)).toArray 3):=by rw [← hw2];exact (Zh (by simp)).trans (by simp [ints])
 have HSZ:Hid (w2.heap.size=w.heap.size+1+1+1):=by rw [← hw2];exact Zb (by simp)
 obtain ⟨w3,hrun,l3,hb3⟩:=Xdl w2 (w.heap.size+1+1) lo m cv ov vals (un HM) hvl l2 (fun i z hz=>by
  obtain ⟨b,o,e,h'⟩:=(un HC) i z hz
  exact ⟨b,o,e,hk2.cell h'⟩)
 have m1:=(hb3.block (w.heap.size+1) (by omega)).trans l1
 have HK3:Hid (Za w w3):=Zb (Below.trans hk2 (Below.mono hb3 (by omega)))
 rw [un HL] at l3
 have HL3:=Zb l3
 have q0:w3.cell? ⟨w.heap.size+1,0,none⟩=some (.int .i64 0):=Zd m1 0
 have q1:w3.cell? ⟨w.heap.size+1,1,none⟩=some (.int .i64 0):=Zd m1 1
 have q2:w3.cell? ⟨w.heap.size+1,2,none⟩=some (.slice none 0 0):=Zd m1 2
 have q3:w3.cell? ⟨w.heap.size+1,3,none⟩=some (.slice none 0 0):=Zd m1 3
 have z0:=Zk m1 0
 have z1:=Zk m1 1
 have z2:=Zk m1 2
 have z3:=Zk m1 3
 have HM1:=Zb m1
 clear hw2 hk2 l1 l2 l3 hb3 m1 hmk
 go_wp2
 have r:=Zm (Zm (Zm (Zm (un HM1) 0 (.int .i64 f)) 1 (.int .i64 0)) 2 (.slice (some ⟨w.heap.size+1+1,0,none⟩) lo lo)) 3 (.slice none 0 0)
 have r0:=Zd r 0
 have r1:=Zd r 1
 have r2:=Zd r 2
 have r3:=Zd r 3
 refine bodyPost_ret (v:=.agg #[.int .i64 f,.int .i64 0,.slice (some ⟨w.heap.size+1+1,0,none⟩) lo lo,.slice none 0 0]) (by simp [results,Tryz.results130,go_sem,r0,r1,r2,r3]) rfl ⟨w.heap.size+1+1,rfl,?_,by omega,?_⟩
 ·refine Xp (Xp (Xp (Xp (un HL3) ?_ _) ?_ _) ?_ _) ?_ _ <;> simp
 ·refine Za.setCell (Za.setCell (Za.setCell (Za.setCell (un HK3) ?_ _) ?_ _) ?_ _) ?_ _ <;> simp
theorem Yo {o:Oper} {a:Act} {K:Act→World→Prop} {Q:Exit→Act→World→Prop} (w:World) (s x:Operand) (t:TypeId)
  (ho:o.op=.call { callee:=.builtin .append,args:=#[s,x],argTypes:=#[t,t] }) {v u v':Value} {w':World} (hs:a.eval s=v) (hx:a.eval x=u)
  (hr:(Builtin.append_ #[t,t] o.type #[v,u]).run Tryz.prog w=.ok v' w') (h:K (a.put o.dst v') w'):o.wp Tryz.prog a w K Q:=by
 unfold Oper.wp execOp
 simp only [ho,resolve,invoke,builtin,Sem.run_bind,Sem.run_pure,Result.andThen_ok,List.map_toArray,List.map_cons,List.map_nil,hs,hx,hr]
 exact h
theorem Zdt {ops:Array Oper} {rest:List Oper} {o:Oper} {a:Act} {Q:Exit→Act→World→Prop} (w:World) (hgd:o.guard=none) (s x:Operand) (t:TypeId)
  (ho:o.op=.call { callee:=.builtin .append,args:=#[s,x],argTypes:=#[t,t] }) {v u v':Value} {w':World} (hs:a.eval s=v) (hx:a.eval x=u)
  (hr:(Builtin.append_ #[t,t] o.type #[v,u]).run Tryz.prog w=.ok v' w') (h:wpList Tryz.prog ops Q rest (a.put o.dst v') w'):wpList Tryz.prog ops Q (o :: rest) a w :=
 wpList_plain hgd fun _ hK=>Yo w s x t ho hs hx hr (hK _ _ h)
theorem Zre {ops:Array Oper} {o:Oper} {a:Act} {K:Act→World→Prop} {Q:Exit→Act→World→Prop} {E:Prop} (w:World) (hgd:o.guard=none) (s x:Operand) (t:TypeId)
  (ho:o.op=.call { callee:=.builtin .append,args:=#[s,x],argTypes:=#[t,t] }) {v u v':Value} {w':World} (hs:a.eval s=v) (hx:a.eval x=u)
  (hr:(Builtin.append_ #[t,t] o.type #[v,u]).run Tryz.prog w=.ok v' w') (h:K (a.put o.dst v') w'):if Region.wanted o (yielded ops a.tmps)=true then Oper.wp Tryz.prog o a w K Q else E:=by
 rw [if_pos (by simp [Region.wanted,hgd])]
 exact Yo w s x t ho hs hx hr h
theorem Zhb {w:World} {base base':Nat} {e:TypeId} {size:Nat} {v:Value} {n:Nat} {xs ys:List Value} (h:w.ownsRow base e size v n xs) (h':w.ownsRow base' e size v n ys):xs=ys:=by
 rcases h with ⟨l,⟨rfl,rfl⟩ | ⟨g,cap,cur,rfl,_,hg,_,_,_,ht⟩⟩
 ·have l':=h'.1
  simp at l l'
  rw [l,l']
 ·rcases h' with ⟨_,⟨h0,_⟩ | ⟨g',cap',cur',e',_,hg',_,_,_,ht'⟩⟩
  ·cases h0
  ·simp only [Value.slice.injEq,Option.some.injEq,Addr.mk.injEq] at e'
   obtain ⟨⟨rfl,_⟩,_⟩:=e'
   rw [hg] at hg'
   obtain rfl:cur=cur':=by simpa using hg'
   rw [← ht,ht']
def FrV (w:World) (v:Value) (x:Fr):Prop:=∃ vl vs,v=.agg #[.int .i64 x.fn,.int .i64 x.at_,vl,vs]∧Xj w vl x.locals∧Xj w vs x.stack
def FbV (w:World) (v:Value) (b:Fb):Prop:=∃ vf,v=.agg #[vf,.int .i64 b.caller]∧Js w vf b.frames
theorem FrV.kept {w w':World} (h:Za w w') {v:Value} {x:Fr} (hx:FrV w v x):FrV w' v x:=by
 obtain ⟨vl,vs,e,h1,h2⟩:=hx;exact ⟨vl,vs,e,h1.kept h,h2.kept h⟩
theorem FbV.kept {w w':World} (h:Za w w') {v:Value} {x:Fb} (hx:FbV w v x):FbV w' v x:=by
 obtain ⟨vl,e,h1⟩:=hx;exact ⟨vl,e,h1.kept h⟩
def Uu (p:List Fn):Prop:=∀ k,k<p.length→(hgt p k).length=(Xd p k).length
theorem Zjz {p:List Fn} {x:Fr} {i:Nat} (hf:x.fn=i) (hi:i<p.length):Xi p x=(decide ((x.locals.length:Int)=(p.getD i Fn.zero).locals) && (ixB x.at_ (Xd p i).length && decide (0≤(hgt p i).getD x.at_.toNat 0))):=by
 unfold Xi hAt
 rw [hf,Jp (by omega) (by omega),Bool.true_and,Int.toNat_natCast]
structure Yd (p:List Fn) (x:Fr):Prop where
 fn0:0≤x.fn
 fn1:x.fn<p.length
 at0:0≤x.at_
 at1:x.at_<(Xd p x.fn.toNat).length
theorem Yd.of {p:List Fn} {x:Fr} (h:Xi p x=true):Yd p x:=by
 simp only [Xi,Bool.and_eq_true,Jm,decide_eq_true_eq] at h
 exact ⟨h.1.1,h.1.2,h.2.2.1.1,h.2.2.1.2⟩
theorem Yz (a:Int) (h1:-17592186044416≤a) (h2:a≤17592186044416):IntKind.i64.wrap a=a:=by
 rw [IntKind.wrap_i64]
 omega
def Zcj (p:List Fn):Prop:=∀ k a,k<p.length→-1000≤(hgt p k).getD a 0∧(hgt p k).getD a 0≤1000
end Go.Proofs.YtblihfpigjiahaaGreatDoor
