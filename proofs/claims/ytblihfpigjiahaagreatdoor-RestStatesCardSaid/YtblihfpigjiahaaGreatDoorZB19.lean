/- EngK, EngL, EngM -/
import Derived.Test.YtblihfpigjiahaaGreatDoorZB18
set_option maxRecDepth 100000
set_option maxHeartbeats 8000000
namespace Go.Proofs.YtblihfpigjiahaaGreatDoor
open Go.RowKit
theorem made_fiber {base bs:Nat} {V:Key→Value} {s:St} {w w3:World} (h:OwnVar base w bs V s) (hk:Kept w w3) {capF BL:Nat} {oF:Option Addr} (hF:V .fibers=.slice oF s.fibers.length capF) (hfr:s.fibers.length≤1000)
  (f:Fr) (hst:f.stack=[]) (hlo:f.locals.length≤1000) (hBL:w3.heap[BL]?=some (.cells (ints f.locals).toArray 3)) (hB:w.heap.size≤BL) :
  ∃ o c w4 V4,(Builtin.append_ #[23,23] 23 #[.slice oF s.fibers.length capF,.slice (some ⟨w3.heap.size + 1,0,none⟩) 1 1]).run Tryz.prog ((w3.alloc (.cells #[.int .i64 f.fn,.int .i64 f.at_,.slice (some ⟨BL,0,none⟩) f.locals.length f.locals.length,.slice none 0 0] 48)).alloc (.cells #[.slice (some ⟨w3.heap.size,0,none⟩) 1 1,.int .i64 (-1)] 46))=.ok (.slice o (s.fibers.length + 1) c) w4 ∧
   w4.cell? ⟨bs,0,none⟩=some (.slice oF s.fibers.length capF)∧w4.frozen? ⟨bs,0,none⟩=false∧(∀ {p:Addr} {x:Value},w3.cell? p=some x→(V .fibers).ownBlock≠some p.block→w4.cell? p=some x)∧Below base w w4∧Moved base bs V s w V4 { s with fibers:=s.fibers++[⟨[f],-1⟩] } (w4.setCell ⟨bs,0,none⟩ (.slice o (s.fibers.length + 1) c)):=by
 have hku:Kept w ((w3.alloc (.cells #[.int .i64 f.fn,.int .i64 f.at_,.slice (some ⟨BL,0,none⟩) f.locals.length f.locals.length,.slice none 0 0] 48)).alloc (.cells #[.slice (some ⟨w3.heap.size,0,none⟩) 1 1,.int .i64 (-1)] 46)):=(hk.alloc _).alloc _
 have hu:=h.kept hku
 obtain ⟨hbn,hbo⟩:=h.new hB
 have hsz:=hk.size
 obtain ⟨hbn',hbo'⟩:=h.new (b:=w3.heap.size) hsz
 have hlow:=h.low
 have hbw:=lt_of_block h.var
 have hlB:BL < w3.heap.size:=(Array.getElem?_eq_some_iff.1 hBL).1
 obtain ⟨v',w4,V4,hrun,⟨o,c,rfl⟩,hov,hgr,hbl⟩:=fiber_comes (B:=w3.heap.size + 1) hu hfr f (-1) hst hlo (Zg (Zg hBL _) _) hbo (by omega) (fun e=>hbn e.symm) (Zg (Zd rfl) _) hbo' (by omega) (fun e=>hbn' e.symm) (by omega) (Zd (by simp))
 rw [hF] at hrun
 refine ⟨o,c,w4,V4,hrun,?_,?_,fun {p x} hc hne=>hgr.cell ((((Kept.refl w3).alloc _).alloc _).cell hc) (fun e=>hne e.symm),Below.grown (h.below hku) hgr (by have:=hku.size; omega) (fun r hr=>((hu.own.piece .fibers trivial).block r hr).1),?_⟩
 ·have:=hgr.cell hu.cells.1 (fun e=>h.off .fibers trivial e.symm)
  rw [hF] at this
  exact this
 ·exact (World.frozen?_of_block (hgr.block bs (lt_of_block hu.var) (fun e=>h.off .fibers trivial e.symm))).trans (hu.cells.2.2.2 0)
 ·refine .grew hku (K:=.fibers) trivial hgr hov (.inl rfl) (fun k b hk' e hb=>?_)
  rcases hbl k b hk' e with h1 | h1 | h1 | h1
  ·exact h1
  ·omega
  ·omega
  ·have:=hku.size; omega
theorem makeFiber_any (base bs:Nat) (V:Key→Value) (s:St) (i n cp bp op f lo:Nat) (w:World) (h:OwnVar base w bs V s) (hn:s.now=i) (hr:Runs s i) (h5:s.fibers.length≤5) (hf:f < n) (hlo:lo≤1000)
  (hp:∀ u,Below base w u→u.cell? ⟨bp,op + f * 3 + 1,none⟩=some (.int .i64 lo)) :
  Calls Tryz.prog 99 #[eng bs (.slice (some ⟨bp,op,none⟩) n cp),.int .i64 f] w (EngPost base bs V s (makeS s i f lo) w):=by
 have hi:=hr.lt
 obtain ⟨c0,_,_,_⟩:=h.cells
 obtain ⟨xs,hrow,_⟩:=h.own.piece .fibers trivial
 obtain ⟨oF,capF,eF,_⟩:=Zo hrow
 rw [eF] at c0
 have HO:=hide h
 have HEF:=hide eF
 have HPC:=hide hp
 have hbw:=lt_of_block h.var
 have hlow:=h.low
 have d0:∀ o,(w.alloc o).cell? ⟨bs,0,none⟩=some (.slice oF s.fibers.length capF):=fun o=>((Kept.refl w).alloc o).cell c0
 clear hrow h hp eF
 by_cases hq5:s.fibers.length=5
 ·have hR:makeS s i f lo=(St.zero,2):=by unfold makeS; rw [if_pos hq5]
  rw [hR]
  rw [hq5] at d0
  clear hR c0
  go_enter Tryz.func99,Tryz.ntmps99
  go_wp2
  exact ⟨rfl,Or.inr ⟨by decide,rfl,Past.of_kept ((Kept.refl w).alloc _)⟩⟩
 ·have hb5:((s.fibers.length:Int) == 5)=false:=by rw [beq_eq_false_iff_ne]; omega
  have hR:makeS s i f lo=(Zp { s with fibers:=s.fibers++[⟨[Xv f lo []],-1⟩] } i s.fibers.length,0):=by unfold makeS; rw [if_neg hq5]
  rw [hR]
  have hs1f:Za { s with fibers:=s.fibers++[⟨[Xv f lo []],-1⟩] } i=Za s i:=Kq _ _ _ _ hi
  have hr1:Runs { s with fibers:=s.fibers++[⟨[Xv f lo []],-1⟩] } i:=by
   have hfr:∀ j,frAt { s with fibers:=s.fibers++[⟨[Xv f lo []],-1⟩] } i j=frAt s i j:=fun j=>by unfold frAt; rw [hs1f]
   exact ⟨by simp; omega,by rw [hs1f]; exact hr.fr,by rw [hs1f]; exact hr.frs,by rw [hfr,hs1f]; exact hr.st⟩
  have hn1:({ s with fibers:=s.fibers++[⟨[Xv f lo []],-1⟩] }:St).now=i:=hn
  have hl1:({ s with fibers:=s.fibers++[⟨[Xv f lo []],-1⟩] }:St).fibers.length=s.fibers.length + 1:=by simp
  have hcl:(Xv f lo []).locals.length=lo:=by unfold Xv; simp
  have HBG:Hid (∀ u,Below base w u→Calls Tryz.prog 130 #[eng bs (.slice (some ⟨bp,op,none⟩) n cp),.int .i64 f,.slice none 0 0] u (BegunPost f lo (Xv f lo []).locals u)):=hide (fun u hb=>begun_any bs f lo n cp bp op _ [] u hf hlo (IntsW.nil _) (by simp) ((un HPC) u hb))
  have HCF:Hid (∀ w2 w3 BL,OwnVar base w2 bs V s→Kept w2 w3→w3.heap[BL]?=some (.cells (ints (Xv f lo []).locals).toArray 3)→w2.heap.size≤BL→∃ o c w4 V4,(Builtin.append_ #[23,23] 23 #[.slice oF s.fibers.length capF,.slice (some ⟨w3.heap.size + 1,0,none⟩) 1 1]).run Tryz.prog ((w3.alloc (.cells #[.int .i64 f,.int .i64 0,.slice (some ⟨BL,0,none⟩) lo lo,.slice none 0 0] 48)).alloc (.cells #[.slice (some ⟨w3.heap.size,0,none⟩) 1 1,.int .i64 (-1)] 46))=.ok (.slice o (s.fibers.length + 1) c) w4 ∧
   w4.cell? ⟨bs,0,none⟩=some (.slice oF s.fibers.length capF)∧w4.frozen? ⟨bs,0,none⟩=false∧(∀ {p:Addr} {x:Value},w3.cell? p=some x→(V .fibers).ownBlock≠some p.block→w4.cell? p=some x)∧Below base w2 w4∧Moved base bs V s w2 V4 { s with fibers:=s.fibers++[⟨[Xv f lo []],-1⟩] } (w4.setCell ⟨bs,0,none⟩ (.slice o (s.fibers.length + 1) c))):=hide (fun w2 w3 BL hu hk hBL hB=>by
   have:=made_fiber hu hk (un HEF) (by omega) (Xv f lo []) rfl (by omega) hBL hB
   rw [hcl] at this
   exact this)
  generalize hs1:({ s with fibers:=s.fibers++[⟨[Xv f lo []],-1⟩] }:St)=s1 at *
  generalize hN:s.fibers.length=N at *
  have HPUT:Hid (∀ V2 u,OwnVar base u bs V2 s1→Calls Tryz.prog 87 #[eng bs (.slice (some ⟨bp,op,none⟩) n cp),.slice (some ⟨u.heap.size,0,none⟩) 1 1] (u.alloc (.cells #[.int .i64 N] 3)).drew (Qh base bs V2 s1 (Zp s1 i N) (.tuple #[]) (u.alloc (.cells #[.int .i64 N] 3)).drew)):=hide (fun V2 u hu =>
   Kl base bs V2 s1 i n cp u.heap.size (some ⟨bp,op,none⟩) N _ ((hu.alloc _).kept (Kept.refl _).drew) hn1 hr1 (Zb (Zt (Zd rfl)) 0))
  generalize (Xv f lo []).locals=L at *
  have HL1:=hide hl1
  clear hR hs1 hcl hr hr1 hn1 hl1 hs1f hN
  go_enter Tryz.func99,Tryz.ntmps99
  go_upto_region 3 with fail
  generalize hwb:w.alloc (.cells #[.pointer (some ⟨bs,0,none⟩),.slice (some ⟨bp,op,none⟩) n cp] 93)=wb
  have hkb:Kept w wb:=by rw [← hwb]; exact (Kept.refl w).alloc _
  have lB:wb.heap[w.heap.size]?=some (.cells #[.pointer (some ⟨bs,0,none⟩),.slice (some ⟨bp,op,none⟩) n cp] 93):=by rw [← hwb]; exact Zd rfl
  have b0:wb.cell? ⟨w.heap.size,0,none⟩=some (.pointer (some ⟨bs,0,none⟩)):=Zb lB 0
  have b1:wb.cell? ⟨w.heap.size,1,none⟩=some (.slice (some ⟨bp,op,none⟩) n cp):=Zb lB 1
  have k0:wb.cell? ⟨bs,0,none⟩=some (.slice oF N capF):=by rw [← hwb]; exact d0 _
  obtain ⟨hBn,hBo⟩:=(un HO).new (b:=w.heap.size) (by omega)
  have HM1:=hide ((Moved.of_kept (un HO) hkb).drew)
  clear hwb d0 c0
  refine Jf 16 [0,1,2,3,4,5,6,7,8] (fun u=>u.cell? ⟨bs,0,none⟩=some (.slice oF N capF)∧u.cell? ⟨w.heap.size,0,none⟩=some (.pointer (some ⟨bs,0,none⟩))∧u.cell? ⟨w.heap.size,1,none⟩=some (.slice (some ⟨bp,op,none⟩) n cp)) (by kernel_rfl) ?_
  have hHeld:=And.intro k0 (And.intro b0 b1)
  repeat
   refine takeP (v:=?_) hHeld (fun u hSu=>?_) ?_
   rotate_left
   ·((try dsimp only at hSu); go_simp) <;> with_reducible rfl
   try simp only [PS]
  refine Qt ?_
  refine Zn (i:=9) rfl (by kernel_rfl) (fun K hK=>?_)
  go_simp
  refine ((un HBG) _ ((un HM1).below (un HO))).mono ?_
  rintro e w3 ⟨BL,rfl,lBL,hBL,hk3⟩
  obtain ⟨o4,c4,w4,V4,hrun,hc4,hz4,hcl4,hb4,hm4⟩:=(un HCF) wb.drew w3 BL (un HM1).own hk3 lBL hBL
  have HM4:=hide ((un HM1).trans hm4)
  have hS3:=And.intro (hk3.cell k0) (And.intro (hk3.cell b0) (hk3.cell b1))
  refine hK.out _ _ (fun _=>hS3) ?_
  clear hK K
  try simp only [PS]
  refine Zn (i:=10) rfl (by kernel_rfl) (fun K hK=>?_)
  go_simp
  refine hK.out _ _ (fun _=>⟨((Kept.refl w3).alloc _).cell hS3.1,((Kept.refl w3).alloc _).cell hS3.2.1,((Kept.refl w3).alloc _).cell hS3.2.2⟩) ?_
  clear hK K
  try simp only [PS]
  refine Zn (i:=11) rfl (by kernel_rfl) (fun K hK=>?_)
  go_simp
  refine hK.out _ _ (fun _=>⟨((Kept.refl w3).alloc _).cell hS3.1,((Kept.refl w3).alloc _).cell hS3.2.1,((Kept.refl w3).alloc _).cell hS3.2.2⟩) ?_
  clear hK K
  try simp only [PS]
  refine Zn (i:=12) rfl (by kernel_rfl) (fun K hK=>?_)
  go_simp
  refine hK.out _ _ (fun _=>⟨(((Kept.refl w3).alloc _).alloc _).cell hS3.1,(((Kept.refl w3).alloc _).alloc _).cell hS3.2.1,(((Kept.refl w3).alloc _).alloc _).cell hS3.2.2⟩) ?_
  clear hK K
  try simp only [PS]
  have hne:(V .fibers).ownBlock≠some w.heap.size:=hBo .fibers trivial
  have hS4:=And.intro hc4 (And.intro (hcl4 hS3.2.1 hne) (hcl4 hS3.2.2 hne))
  refine Zn (i:=13) rfl (by kernel_rfl) (fun K hK=>?_)
  rw [if_pos (by rfl)]
  refine Qq (v:=.slice oF N capF) _ _ _ 23 rfl rfl rfl hrun ?_
  refine hK.out _ _ (fun _=>hS4) ?_
  clear hK K
  try simp only [PS]
  refine Zn (i:=14) rfl (by kernel_rfl) (fun K hK=>?_)
  go_simp
  refine hK.out _ _ (fun _=>hS4) ?_
  clear hK K
  try simp only [PS]
  refine Zn (i:=15) rfl (by kernel_rfl) (fun K hK=>?_)
  go_simp
  refine hK.out _ _ (fun _=>hS4) ?_
  clear hK K
  try simp only [PS]
  refine Zn (i:=16) rfl (by kernel_rfl) (fun K hK=>?_)
  go_simp
  refine hK.out _ _ (fun h=>absurd rfl h) ?_
  clear hK K
  refine Xx (by kernel_rfl) ?_ _
  have l5:(w4.setCell ⟨bs,0,none⟩ (.slice o4 (N + 1) c4)).heap[w.heap.size]?=some (.cells #[.pointer (some ⟨bs,0,none⟩),.slice (some ⟨bp,op,none⟩) n cp] 93):=hm4.lays (Zt lB) hBn hBo
  have hc5:(w4.setCell ⟨bs,0,none⟩ (.slice o4 (N + 1) c4)).cell? ⟨bs,0,none⟩=some (.slice o4 (N + 1) c4):=World.cell?_setCell_same _ _ _ hc4
  generalize w4.setCell ⟨bs,0,none⟩ (.slice o4 (N + 1) c4)=w5 at *
  have q0:w5.cell? ⟨w.heap.size,0,none⟩=some (.pointer (some ⟨bs,0,none⟩)):=Zb l5 0
  have q1:w5.cell? ⟨w.heap.size,1,none⟩=some (.slice (some ⟨bp,op,none⟩) n cp):=Zb l5 1
  have hwn:IntKind.i64.wrap (N:Int)=(N:Int):=by rw [IntKind.wrap_i64]; omega
  have hwn1:IntKind.i64.wrap ((N:Int) + 1 - 1)=(N:Int):=by rw [IntKind.wrap_i64]; omega
  clear hm4 hcl4 hb4 hS4 hS3 hrun hc4 hz4 hne lBL hBL hk3 hHeld k0 b0 b1 lB l5 hkb HCF HBG
  go_upto_region 4 with fail
  refine Jf 9 [0,1,2,3,4,5,6,7] (fun u=>u.cell? ⟨bs,0,none⟩=some (.slice o4 (N + 1) c4)∧u.cell? ⟨w.heap.size,0,none⟩=some (.pointer (some ⟨bs,0,none⟩))∧u.cell? ⟨w.heap.size,1,none⟩=some (.slice (some ⟨bp,op,none⟩) n cp)) (by kernel_rfl) ?_
  have hHeld:=And.intro hc5 (And.intro q0 q1)
  repeat
   refine takeP (v:=?_) hHeld (fun u hSu=>?_) ?_
   rotate_left
   ·((try dsimp only at hSu); go_simp) <;> with_reducible rfl
   try simp only [PS]
  refine Qt ?_
  refine Zn (i:=8) rfl (by kernel_rfl) (fun K hK=>?_)
  go_simp
  refine hK.out _ _ (fun _=>⟨((Kept.refl w5).alloc _).cell hHeld.1,((Kept.refl w5).alloc _).cell hHeld.2.1,((Kept.refl w5).alloc _).cell hHeld.2.2⟩) ?_
  clear hK K
  try simp only [PS]
  refine Zn (i:=9) rfl (by kernel_rfl) (fun K hK=>?_)
  go_simp
  refine ((un HPUT) V4 w5 (un HM4).own).mono ?_
  rintro e w6 ⟨rfl,V6,hm6⟩
  have HM6:=hide ((un HM4).trans (hm6.pre (un HM4).own ((Kept.refl _).alloc _).drew))
  refine hK.out _ _ (fun h=>absurd rfl h) ?_
  clear hK K
  refine Xx (by kernel_rfl) ?_ _
  go_wp2
  go_end0
  exact Or.inl ⟨rfl,rfl,V6,un HM6⟩
theorem goesOn_any (bs N capF gF m n cp:Nat) (oa:Option Addr) (c:Int) (w:World) (hm:m < N)
  (c0:w.cell? ⟨bs,0,none⟩=some (.slice (some ⟨gF,0,none⟩) N capF)) (c1:w.cell? ⟨gF,m * 2 + 1,none⟩=some (.int .i64 c)) :
  Calls Tryz.prog 132 #[eng bs (.slice oa n cp),.int .i64 m] w fun e w'=>e=.returned (.bool (decide (m=0) || !decide (c=-1)))∧Kept w w':=by
 have d0:∀ o,(w.alloc o).cell? ⟨bs,0,none⟩=some (.slice (some ⟨gF,0,none⟩) N capF):=fun o=>((Kept.refl w).alloc o).cell c0
 have d1:∀ o,(w.alloc o).cell? ⟨gF,m * 2 + 1,none⟩=some (.int .i64 c):=fun o=>((Kept.refl w).alloc o).cell c1
 by_cases h0:m=0
 ·subst h0
  go_enter Tryz.func132,Tryz.ntmps132
  go_wp2
  go_ret
  exact ⟨rfl,(Kept.refl w).alloc _⟩
 ·have hb:((m:Int) == 0)=false:=by rw [beq_eq_false_iff_ne]; omega
  have hm0:(0:Int)≤(m:Int):=by omega
  have hm1:(m:Int) < (N:Int):=by omega
  rw [decide_eq_false h0,Bool.false_or]
  have hbb:(c != -1)=!decide (c=-1):=by by_cases e:c=-1 <;> simp [e]
  generalize hB:(!decide (c=-1))=B at *
  clear hB h0
  go_enter Tryz.func132,Tryz.ntmps132
  go_wp2
  go_ret
  exact ⟨rfl,(Kept.refl w).alloc _⟩
theorem resume_bad (base bs:Nat) (V:Key→Value) (s:St) (i n cp:Nat) (oa:Option Addr) (x z:Int) (w:World) (h:OwnVar base w bs V s) (hN:s.fibers.length≤5) (hx:x < 0∨(s.fibers.length:Int)≤x) :
  Calls Tryz.prog 100 #[eng bs (.slice oa n cp),.int .i64 x,.int .i64 z] w (EngPost base bs V s (Jc s i x z) w):=by
 have hR:Jc s i x z=(St.zero,5):=by unfold Jc; rw [if_pos hx]
 rw [hR]
 obtain ⟨c0,_,_,_⟩:=h.cells
 obtain ⟨xs,hrow,_⟩:=h.own.piece .fibers trivial
 obtain ⟨oF,capF,eF,_⟩:=Zo hrow
 rw [eF] at c0
 have d0:∀ o,(w.alloc o).cell? ⟨bs,0,none⟩=some (.slice oF s.fibers.length capF):=fun o=>((Kept.refl w).alloc o).cell c0
 have hbw:=lt_of_block h.var
 have hlow:=h.low
 generalize s.fibers.length=N at *
 clear hrow h eF hR c0
 rcases hx with hx | hx
 ·go_enter Tryz.func100,Tryz.ntmps100
  go_wp2
  exact ⟨rfl,Or.inr ⟨by decide,rfl,Past.of_kept ((Kept.refl w).alloc _)⟩⟩
 ·have hx0:¬ x < 0:=by omega
  go_enter Tryz.func100,Tryz.ntmps100
  go_wp2
  exact ⟨rfl,Or.inr ⟨by decide,rfl,Past.of_kept ((Kept.refl w).alloc _)⟩⟩
theorem resume_busy (base bs:Nat) (V:Key→Value) (s:St) (i n cp m:Nat) (oa:Option Addr) (z:Int) (w:World) (h:OwnVar base w bs V s) (hm:m < s.fibers.length)
  (hb:m=0∨(Za s m).caller≠-1∨(Za s m).frames.length=0) :
  Calls Tryz.prog 100 #[eng bs (.slice oa n cp),.int .i64 m,.int .i64 z] w (EngPost base bs V s (Jc s i m z) w):=by
 have hR:Jc s i m z=(St.zero,6):=by unfold Jc; rw [if_neg (by omega),Int.toNat_natCast,if_pos hb]
 rw [hR]
 obtain ⟨gF,capF,eF,_,k0,k1,_,_⟩:=h.own.fib hm
 obtain ⟨c0,_,_,_⟩:=h.cells
 rw [eF] at c0
 obtain ⟨ys,hrow,_⟩:=h.own.piece (.frames m) hm
 obtain ⟨of,cf,ef,_⟩:=Zo hrow
 rw [ef] at k0
 have hm0:¬ (m:Int) < 0:=by omega
 have hm1:(0:Int)≤(m:Int):=by omega
 have hm2:(m:Int) < (s.fibers.length:Int):=by omega
 have hm3:¬ (s.fibers.length:Int)≤(m:Int):=by omega
 have hk1:∀ o,Kept w (w.alloc o):=fun o=>(Kept.refl w).alloc o
 have HG:=hide (fun o=>goesOn_any bs s.fibers.length capF gF m n cp oa (Za s m).caller (w.alloc o) hm ((hk1 o).cell c0) ((hk1 o).cell k1))
 have d0:∀ o,(w.alloc o).cell? ⟨bs,0,none⟩=some (.slice (some ⟨gF,0,none⟩) s.fibers.length capF):=fun o=>(hk1 o).cell c0
 have HK:=hide hk1
 have hbase:base≤w.heap.size:=by have:=h.low; have:=lt_of_block h.var; omega
 have HO:=hide h
 generalize hon:(decide (m=0) || !decide ((Za s m).caller=-1))=on at *
 generalize hq:(Za s m).frames.length=q at *
 have hcase:on=true∨q=0:=by
  rcases hb with h1 | h1 | h1
  ·left; rw [← hon,decide_eq_true h1]; rfl
  ·left; rw [← hon,decide_eq_false h1]; simp
  ·exact .inr h1
 generalize s.fibers.length=N at *
 clear hR eF hrow ef hon hq hb hk1 h
 go_enter Tryz.func100,Tryz.ntmps100
 go_wp2_with fail
 refine ((un HG) _).mono ?_
 rintro e w1 ⟨rfl,hk2⟩
 have hk02:=((un HK) _).trans hk2
 have l1:w1.heap[w.heap.size]?=some (.cells #[.pointer (some ⟨bs,0,none⟩),.slice oa n cp] 93):=Zj hk2 (Zd rfl)
 have b0:w1.cell? ⟨w.heap.size,0,none⟩=some (.pointer (some ⟨bs,0,none⟩)):=Zb l1 0
 have e0:=hk02.cell c0
 have e1:=hk02.cell k0
 have HB:Hid (Past bs V s w w1):=hide (Past.of_kept hk02)
 clear hk2 hk02 l1 k1
 cases on with
 | true =>
  go_wp2
  exact ⟨rfl,Or.inr ⟨by decide,rfl,un HB⟩⟩
 | false =>
  obtain rfl:q=0:=by simpa using hcase
  go_wp2
  exact ⟨rfl,Or.inr ⟨by decide,rfl,un HB⟩⟩
theorem resume_go (base bs:Nat) (V:Key→Value) (s:St) (i n cp m:Nat) (oa:Option Addr) (z:Int) (w:World) (h:OwnVar base w bs V s) (hn:s.now=i) (hr:Runs s m)
  (hb:¬ (m=0∨(Za s m).caller≠-1∨(Za s m).frames.length=0)) (hloc:(frAt s m ((Za s m).frames.length - 1)).at_=0→0 < (frAt s m ((Za s m).frames.length - 1)).locals.length) :
  Calls Tryz.prog 100 #[eng bs (.slice oa n cp),.int .i64 m,.int .i64 z] w (EngPost base bs V s (Jc s i m z) w):=by
 have hm:=hr.lt
 have hfr:=hr.fr
 have hfrs:=hr.frs
 have hcm:(Za s m).caller=-1:=by
  rcases Decidable.em ((Za s m).caller=-1) with h1 | h1
  ·exact h1
  ·exact absurd (.inr (.inl h1)) hb
 have hmz:m≠0:=fun e=>hb (.inl e)
 obtain ⟨gF,capF,eF,_,k0,k1,kz,_⟩:=h.own.fib hm
 obtain ⟨g,cap,eg,_,_⟩:=h.own.fr hm (j:=0) hr.fr
 obtain ⟨c0,c1,_,cz⟩:=h.cells
 rw [eF] at c0
 rw [eg] at k0
 rw [hn] at c1
 rw [hcm] at k1
 have hm0:¬ (m:Int) < 0:=by omega
 have hm1:(0:Int)≤(m:Int):=by omega
 have hm2:(m:Int) < (s.fibers.length:Int):=by omega
 have hm3:¬ (s.fibers.length:Int)≤(m:Int):=by omega
 have hk1:∀ o,Kept w (w.alloc o):=fun o=>(Kept.refl w).alloc o
 have hgo:(decide (m=0) || !decide ((-1:Int)=-1))=false:=by rw [decide_eq_false hmz]; rfl
 have HG:Hid (∀ o,Calls Tryz.prog 132 #[eng bs (.slice oa n cp),.int .i64 m] (w.alloc o) fun e w'=>e=.returned (.bool false)∧Kept (w.alloc o) w'):=hide (fun o=>by
  have:=goesOn_any bs s.fibers.length capF gF m n cp oa (-1) (w.alloc o) hm ((hk1 o).cell c0) ((hk1 o).cell k1)
  rw [hgo] at this
  exact this)
 have d0:∀ o,(w.alloc o).cell? ⟨bs,0,none⟩=some (.slice (some ⟨gF,0,none⟩) s.fibers.length capF):=fun o=>(hk1 o).cell c0
 have hq0:(((Za s m).frames.length:Int) == 0)=false:=by rw [beq_eq_false_iff_ne]; omega
 have hne:bs≠gF:=fun e=>h.off .fibers trivial (by rw [eF,e]; rfl)
 have HK:=hide hk1
 have HO:=hide h
 have HEF:=hide eF
 have HEG:=hide eg
 have HR0:=hide hr
 generalize hs1:Zf s m { Za s m with caller:=(i:Int) }=s1
 generalize hs2:({ s1 with now:=(m:Int) }:St)=s2
 have hf2:Za s2 m={ Za s m with caller:=(i:Int) }:=by rw [← hs2,← hs1]; exact Xi _ hm
 have hfr2:∀ j,frAt s2 m j=frAt s m j:=fun j=>by unfold frAt; rw [hf2]
 have hl2:s2.fibers.length=s.fibers.length:=by rw [← hs2,← hs1]; exact Zv _ _ _
 have hr2:Runs s2 m:=⟨by rw [hl2]; exact hm,by rw [hf2]; exact hfr,by rw [hf2]; exact hfrs,by rw [hfr2,hf2]; exact hr.st⟩
 have hn2:s2.now=m:=by rw [← hs2]
 have HMS:Hid (∀ u,OwnVar base u bs V s→Moved base bs V s u V s2 ((u.setCell ⟨gF,m * 2 + 1,none⟩ (.int .i64 i)).setCell ⟨bs,1,none⟩ (.int .i64 m))):=hide (fun u hu=>by
  have h1:=Moved.setCaller hu hm eF (i:Int)
  rw [hs1] at h1
  have h2:=Moved.setNow h1.own (m:Int)
  rw [hs2] at h2
  exact h1.trans h2)
 have HTP:Hid (∀ u,OwnVar base u bs V s2→Calls Tryz.prog 89 #[eng bs (.slice oa n cp)] u fun e w'=>e=.returned (.pointer (some ⟨g,((Za s m).frames.length - 1) * 4,none⟩))∧Kept u w'):=hide (fun u hu=>by
  obtain ⟨g',cap',eg',ht⟩:=engTop_own hu hn2 hr2 oa n cp
  rw [eg,hf2] at eg'
  obtain ⟨rfl,-⟩:=(by simpa using eg':(g=g')∧True∧cap=cap')
  have:=ht u hu
  rw [hf2] at this
  exact this)
 have hR:Jc s i m z=if (frAt s m ((Za s m).frames.length - 1)).at_=0 then (Xl s2 m ((Za s m).frames.length - 1) { frAt s m ((Za s m).frames.length - 1) with locals:=(frAt s m ((Za s m).frames.length - 1)).locals.set 0 z },0) else (Zp s2 m z,0):=by
  unfold Jc; rw [if_neg (by omega),Int.toNat_natCast,if_neg hb,← hs2,← hs1]
 generalize Jc s i m z=R at hR ⊢
 have HPUT:Hid (∀ V2 u,OwnVar base u bs V2 s2→Calls Tryz.prog 87 #[eng bs (.slice oa n cp),.slice (some ⟨u.heap.size,0,none⟩) 1 1] (u.alloc (.cells #[.int .i64 z] 3)) (Qh base bs V2 s2 (Zp s2 m z) (.tuple #[]) (u.alloc (.cells #[.int .i64 z] 3)))):=hide (fun V2 u hu =>
  Kl base bs V2 s2 m n cp u.heap.size oa z _ (hu.alloc _) hn2 hr2 (Zb (Zd rfl) 0))
 have HFR:Hid (∀ u,OwnVar base u bs V s2→u.cell? ⟨g,((Za s m).frames.length - 1) * 4 + 1,none⟩=some (.int .i64 (frAt s m ((Za s m).frames.length - 1)).at_)∧u.cell? ⟨g,((Za s m).frames.length - 1) * 4 + 2,none⟩=some (V (.locals m ((Za s m).frames.length - 1)))):=hide (fun u hu=>by
  obtain ⟨g',cap',eg',_,f0,f1,f2,f3,ffz,_⟩:=hu.own.fr hr2.lt (j:=(Za s m).frames.length - 1) (by rw [hf2]; show _ < (Za s m).frames.length; omega)
  rw [eg,hf2] at eg'
  obtain ⟨rfl,-⟩:=(by simpa using eg':(g=g')∧True∧cap=cap')
  rw [hfr2] at f1
  exact ⟨f1,f2⟩)
 have HLOC:Hid ((frAt s m ((Za s m).frames.length - 1)).at_=0→∃ gl cl,0 < (frAt s m ((Za s m).frames.length - 1)).locals.length∧V (.locals m ((Za s m).frames.length - 1))=.slice (some ⟨gl,0,none⟩) (frAt s m ((Za s m).frames.length - 1)).locals.length cl∧∀ u,OwnVar base u bs V s2→(∃ y,u.cell? ⟨gl,0,none⟩=some y)∧u.frozen? ⟨gl,0,none⟩=false∧Moved base bs V s2 u V (Xl s2 m ((Za s m).frames.length - 1) { frAt s m ((Za s m).frames.length - 1) with locals:=(frAt s m ((Za s m).frames.length - 1)).locals.set 0 z }) (u.setCell ⟨gl,0,none⟩ (.int .i64 z))):=hide (fun hat=>by
  have hl:=hloc hat
  have hj2:(Za s m).frames.length - 1 < (Za s2 m).frames.length:=by rw [hf2]; show _ < (Za s m).frames.length; omega
  obtain ⟨gl,cl,el,_,_⟩:=Jr (h.own.loc hm (j:=(Za s m).frames.length - 1) (by omega)) hl
  refine ⟨gl,cl,hl,el,fun u hu=>?_⟩
  have hlc:=hu.own.loc hr2.lt hj2
  rw [hfr2] at hlc
  obtain ⟨gl',cl',el',_,hx,hz,_⟩:=Jr hlc hl
  rw [el] at el'
  obtain ⟨rfl,-⟩:=(by simpa using el':(gl=gl')∧True∧cl=cl')
  refine ⟨⟨_,hx 0 _ (ints_at (Zm _ 0 0 hl))⟩,hz 0,?_⟩
  have:=Moved.setLocal hu hr2.lt hj2 (q:=0) (by rw [hfr2]; exact el) z
  rw [hfr2] at this
  exact this)
 generalize hjj:(Za s m).frames.length - 1=j at *
 generalize hq:(Za s m).frames.length=q at *
 generalize hat:(frAt s m j).at_=at_ at *
 generalize (frAt s m j).locals.length=lo at *
 generalize Xl s2 m j { frAt s m j with locals:=(frAt s m j).locals.set 0 z }=s3 at *
 generalize V (.locals m j)=vl at *
 have HR:Hid ((at_=0→R=(s3,0))∧(at_≠0→R=(Zp s2 m z,0))):=hide ⟨fun h=>by rw [hR,if_pos h],fun h=>by rw [hR,if_neg h]⟩
 clear hs1 hs2 hf2 hfr2 hl2 hr2 hn2 hR eF eg hb hloc hgo hcm hr
 go_enter Tryz.func100,Tryz.ntmps100
 go_wp2_with fail
 refine ((un HG) _).mono ?_
 rintro e w1 ⟨rfl,hk2⟩
 have hk02:=((un HK) _).trans hk2
 have l1:w1.heap[w.heap.size]?=some (.cells #[.pointer (some ⟨bs,0,none⟩),.slice oa n cp] 93):=Zj hk2 (Zd rfl)
 have b0:w1.cell? ⟨w.heap.size,0,none⟩=some (.pointer (some ⟨bs,0,none⟩)):=Zb l1 0
 have e0:=hk02.cell c0
 have e1:=hk02.cell k0
 have e2:=hk02.cell c1
 have e3:=hk02.cell k1
 have ho1:=(un HO).kept hk02
 have z1:w1.frozen? ⟨gF,m * 2 + 1,none⟩=false:=by
  obtain ⟨gF',capF',eF',_,_,_,kz',_⟩:=ho1.own.fib hm
  rw [un HEF] at eF'
  obtain ⟨⟨rfl⟩,-,rfl⟩:=(by simpa using eF':(gF=gF')∧True∧capF=capF')
  exact kz' _
 have z2:=ho1.cells.2.2.2 1
 have hBn:=(un HO).new (b:=w.heap.size) (by omega)
 have hms:=(un HMS) w1 ho1
 have HM2:=hide ((Moved.of_kept (un HO) hk02).trans hms)
 have HL2:=hide (hms.lays l1 hBn.1 hBn.2)
 have HB2:=hide (hms.off _ (Array.getElem?_eq_some_iff.1 l1).1 hBn.2)
 have hBg:gF≠w.heap.size:=fun e=>hBn.2 .fibers trivial (by rw [un HEF,e]; rfl)
 have hBs:bs≠w.heap.size:=fun e=>hBn.1 e.symm
 clear hk2 hk02 l1 ho1 hms kz cz
 go_upto_region 5 with fail
 go_region
 go_upto_region 7 with fail
 generalize hw2:((w1.setCell ⟨gF,m * 2 + 1,none⟩ (.int .i64 i)).setCell ⟨bs,1,none⟩ (.int .i64 m)).drew=w2
 have hm2':Moved base bs V s w V s2 w2:=by rw [← hw2]; exact (un HM2).drew
 have l2:w2.heap[w.heap.size]?=some (.cells #[.pointer (some ⟨bs,0,none⟩),.slice oa n cp] 93):=by rw [← hw2]; exact Zt (un HL2)
 have q0:w2.cell? ⟨w.heap.size,0,none⟩=some (.pointer (some ⟨bs,0,none⟩)):=Zb l2 0
 have q1:w2.cell? ⟨w.heap.size,1,none⟩=some (.slice oa n cp):=Zb l2 1
 have HM3:=hide hm2'
 have HL3:=hide l2
 clear hw2 hm2' l2 b0 e0 e1 e2 e3 z1 z2
 go_wp2_with fail
 refine ((un HTP) w2 (un HM3).own).mono ?_
 rintro e w3 ⟨rfl,hk3⟩
 have l3:=Zj hk3 (un HL3)
 have r0:w3.cell? ⟨w.heap.size,0,none⟩=some (.pointer (some ⟨bs,0,none⟩)):=Zb l3 0
 have r1:w3.cell? ⟨w.heap.size,1,none⟩=some (.slice oa n cp):=Zb l3 1
 have hm3:=(un HM3).kept hk3
 obtain ⟨f1,f2⟩:=(un HFR) w3 hm3.own
 have HM4:=hide hm3
 clear hk3 l3 hm3 q0 q1
 by_cases ha:at_=0
 ·have hRR:=hide ((un HR).1 ha)
  obtain ⟨gl,cl,hlo,rfl,hall⟩:=(un HLOC) ha
  obtain ⟨⟨y,hy⟩,hz,hm5⟩:=hall w3 (un HM4).own
  have HM5:=hide ((un HM4).trans hm5)
  subst ha
  have hl0:(0:Int) < (lo:Int):=by omega
  clear hall hm5
  go_wp2
  go_end0
  rw [un hRR]
  exact Or.inl ⟨rfl,rfl,V,un HM5⟩
 ·have hRR:=hide ((un HR).2 ha)
  have hba:(at_ == 0)=false:=by rw [beq_eq_false_iff_ne]; exact ha
  clear ha
  go_wp2_with fail
  refine ((un HPUT) V w3 (un HM4).own).mono ?_
  rintro e w4 ⟨rfl,V4,hm4⟩
  have HM5:=hide ((un HM4).trans (hm4.pre (un HM4).own ((Kept.refl _).alloc _)))
  clear hm4
  go_wp2
  go_end0
  rw [un hRR]
  exact Or.inl ⟨rfl,rfl,V4,un HM5⟩
end Go.Proofs.YtblihfpigjiahaaGreatDoor
