/- ExprC, ExprD, ExprE, ExprN -/
import Derived.Test.YtogcfkmekdpmmaaDoorExprG
import Derived.Maps.OwnSet
set_option maxRecDepth 100000
set_option maxHeartbeats 8000000
namespace Go.Proofs.YtogcfkmekdpmmaaDoor
open Go.RowKit Go.Maps

def kindR:Value→Option (DataW Unit × List MemPlace)
  | .agg cs=>(match cs.toList with
    | [.int .i64 a,.int .i64 b]=>some (.agg [.lit (.int .i64 a),.lit (.int .i64 b)],[])
    | _=>none)
  | _=>none
theorem kindR_mk (a b:Int):kindR (.agg #[.int .i64 a,.int .i64 b])=some (.agg [.lit (.int .i64 a),.lit (.int .i64 b)],[]):=rfl
theorem kindR_inv {v:Value} {a b:Int} {ps:List MemPlace} (h:kindR v=some (.agg [.lit (.int .i64 a),.lit (.int .i64 b)],ps)):v=.agg #[.int .i64 a,.int .i64 b]:=by
  unfold kindR at h
  split at h
  · rename_i cs
    split at h
    · rename_i x y hc
      simp at h
      obtain ⟨⟨rfl,rfl⟩,_⟩:=h
      cases cs
      simp at hc
      rw [hc]
    · cases h
  · cases h

def entryD (a b:Int):DataW Unit:=.agg [.lit (.int .i64 a),.lit (.int .i64 b)]
def kindD (n:Int):DataW Unit :=
  ((((((((DataW.map []).put (.int .i64 0) (entryD 0 999)).put (.int .i64 1) (entryD 0 (n - 1))).put (.int .i64 2) (entryD 2 0)).put (.int .i64 3) (entryD 2 0)).put (.int .i64 4) (entryD 2 0)).put (.int .i64 5) (entryD 2 0)).put (.int .i64 6) (entryD 2 0)).put (.int .i64 7) (entryD 3 0)

theorem lit_is (a:Int):WideAt.IsKeyLit (Lit.int .i64 a):=trivial
theorem lit_ne {a b:Int} (h:a≠b):Lit.int .i64 a≠Lit.int .i64 b:=by
  intro e
  simp only [Lit.int.injEq,true_and] at e
  exact h e

def KindAt (w:World) (B:Nat) (n:Int):Prop:=w.ownsMap Tryd.prog 3 kindR B 8 (kindD n)
theorem KindAt.kept {w w':World} {B:Nat} {n:Int} (h:KindAt w B n) (k:Kept w w'):KindAt w' B n:=by
  obtain ⟨es,clock,hb,F,hs,hD⟩:=h
  exact ⟨es,clock,lays_kept k hb,F,hs,hD⟩

theorem keyInt:Keyed Tryd.prog 3:=int_keyed Tryd.underlying3
theorem zeroKind (w:World):(zeroValue 90).run Tryd.prog w=.ok (.agg #[.int .i64 0,.int .i64 0]) w:=by kernel_rfl


theorem kindD_has (n k:Int):Maps.has (kindD n) (.int .i64 k)=decide (0≤k∧k≤7):=by
  have t0:Tidy (DataW.map []:DataW Unit):=tidy_empty
  have t1:=t0.put (lit_is 0) (entryD 0 999)
  have t2:=t1.put (lit_is 1) (entryD 0 (n - 1))
  have t3:=t2.put (lit_is 2) (entryD 2 0)
  have t4:=t3.put (lit_is 3) (entryD 2 0)
  have t5:=t4.put (lit_is 4) (entryD 2 0)
  have t6:=t5.put (lit_is 5) (entryD 2 0)
  have t7:=t6.put (lit_is 6) (entryD 2 0)
  unfold kindD
  by_cases h7:k=7
  · subst h7; rw [has_put_same t7.isMap (lit_is _)]; rfl
  rw [has_put_other (lit_ne h7)]
  by_cases h6:k=6
  · subst h6; rw [has_put_same t6.isMap (lit_is _)]; rfl
  rw [has_put_other (lit_ne h6)]
  by_cases h5:k=5
  · subst h5; rw [has_put_same t5.isMap (lit_is _)]; rfl
  rw [has_put_other (lit_ne h5)]
  by_cases h4:k=4
  · subst h4; rw [has_put_same t4.isMap (lit_is _)]; rfl
  rw [has_put_other (lit_ne h4)]
  by_cases h3:k=3
  · subst h3; rw [has_put_same t3.isMap (lit_is _)]; rfl
  rw [has_put_other (lit_ne h3)]
  by_cases h2:k=2
  · subst h2; rw [has_put_same t2.isMap (lit_is _)]; rfl
  rw [has_put_other (lit_ne h2)]
  by_cases h1:k=1
  · subst h1; rw [has_put_same t1.isMap (lit_is _)]; rfl
  rw [has_put_other (lit_ne h1)]
  by_cases h0:k=0
  · subst h0; rw [has_put_same t0.isMap (lit_is _)]; rfl
  rw [has_put_other (lit_ne h0)]
  have:¬ (0≤k∧k≤7):=by omega
  simp [Maps.has,this]

theorem kindD_at (n k:Int) (z:DataW Unit):(kindD n).atKey (.int .i64 k) z=if 0≤k∧k≤7 then entryD (partsS k) (mostS n k) else z:=by
  have t0:Tidy (DataW.map []:DataW Unit):=tidy_empty
  have t1:=t0.put (lit_is 0) (entryD 0 999)
  have t2:=t1.put (lit_is 1) (entryD 0 (n - 1))
  have t3:=t2.put (lit_is 2) (entryD 2 0)
  have t4:=t3.put (lit_is 3) (entryD 2 0)
  have t5:=t4.put (lit_is 4) (entryD 2 0)
  have t6:=t5.put (lit_is 5) (entryD 2 0)
  have t7:=t6.put (lit_is 6) (entryD 2 0)
  unfold kindD
  by_cases h7:k=7
  · subst h7; rw [atKey_put_same t7.isMap (lit_is _)]; rfl
  rw [atKey_put_other (lit_ne h7)]
  by_cases h6:k=6
  · subst h6; rw [atKey_put_same t6.isMap (lit_is _)]; rfl
  rw [atKey_put_other (lit_ne h6)]
  by_cases h5:k=5
  · subst h5; rw [atKey_put_same t5.isMap (lit_is _)]; rfl
  rw [atKey_put_other (lit_ne h5)]
  by_cases h4:k=4
  · subst h4; rw [atKey_put_same t4.isMap (lit_is _)]; rfl
  rw [atKey_put_other (lit_ne h4)]
  by_cases h3:k=3
  · subst h3; rw [atKey_put_same t3.isMap (lit_is _)]; rfl
  rw [atKey_put_other (lit_ne h3)]
  by_cases h2:k=2
  · subst h2; rw [atKey_put_same t2.isMap (lit_is _)]; rfl
  rw [atKey_put_other (lit_ne h2)]
  by_cases h1:k=1
  · subst h1; rw [atKey_put_same t1.isMap (lit_is _)]; rfl
  rw [atKey_put_other (lit_ne h1)]
  by_cases h0:k=0
  · subst h0; rw [atKey_put_same t0.isMap (lit_is _)]; rfl
  rw [atKey_put_other (lit_ne h0)]
  have:¬ (0≤k∧k≤7):=by omega
  rw [if_neg this]
  rfl

theorem KindAt.look {w:World} {B:Nat} {n k:Int} (h:KindAt w B n) (hw:(Lit.int .i64 k).wf=true) (h0:0≤k) (h7:k≤7) :
    (Instr.lookup 85 (.map (some B)) (.int .i64 k) false).run Tryd.prog w=.ok (.agg #[.int .i64 (partsS k),.int .i64 (mostS n k)]) w:=by
  obtain ⟨v,ps,hrun,hR⟩:=World.ownsMap.lookup h keyInt Tryd.underlying85 (zeroKind w) (kindR_mk 0 0) (keyOf_int_mk Tryd.underlying3 hw)
  rw [kindD_at,if_pos ⟨h0,h7⟩] at hR
  rw [hrun,kindR_inv hR]
theorem KindAt.look_ok {w:World} {B:Nat} {n k:Int} (h:KindAt w B n) (hw:(Lit.int .i64 k).wf=true) :
    (Instr.lookup 85 (.map (some B)) (.int .i64 k) true).run Tryd.prog w=.ok (.tuple #[.agg #[.int .i64 (if 0≤k∧k≤7 then partsS k else 0),.int .i64 (if 0≤k∧k≤7 then mostS n k else 0)],.bool (decide (0≤k∧k≤7))]) w:=by
  obtain ⟨v,ps,hrun,hR⟩:=World.ownsMap.look_ok h keyInt Tryd.underlying85 (zeroKind w) (kindR_mk 0 0) (keyOf_int_mk Tryd.underlying3 hw)
  rw [kindD_at] at hR
  rw [kindD_has] at hrun
  rw [hrun]
  by_cases hk:0≤k∧k≤7
  · rw [if_pos hk] at hR
    rw [kindR_inv hR,if_pos hk,if_pos hk]
  · rw [if_neg hk] at hR
    rw [kindR_inv hR,if_neg hk,if_neg hk]

theorem made (w:World):(Instr.makeMap 85 none).run Tryd.prog w=.ok (.map (some w.heap.size)) (w.alloc (.map #[] 0)):=by kernel_rfl

theorem kindsOver_any (n:Int) (w:World) (h0:0≤n) (h4:n≤4) :
    Calls Tryd.prog 48 #[.int .i64 n] w fun e w'=>e=.returned (.map (some w.heap.size))∧KindAt w' w.heap.size n∧Kept w w':=by
  have key:∀ k:Int,0≤k→k≤7→keyOf Tryd.prog 3 (.int .i64 k)=some (.int .i64 k):=fun k a b=>keyOf_int_mk Tryd.underlying3 (WalkArith.wf_i64 (by omega))
  have m0:=World.ownsMap_made w Tryd.prog 3 kindR
  obtain ⟨w1,r1,m1,g1⟩:=m0.update (t:=85) keyInt Tryd.underlying85 (by unfold maxLen; omega) (key 0 (by omega) (by omega)) (kindR_mk 0 999)
  obtain ⟨w2,r2,m2,g2⟩:=m1.update (t:=85) keyInt Tryd.underlying85 (by unfold maxLen; omega) (key 1 (by omega) (by omega)) (kindR_mk 0 (n - 1))
  obtain ⟨w3,r3,m3,g3⟩:=m2.update (t:=85) keyInt Tryd.underlying85 (by unfold maxLen; omega) (key 2 (by omega) (by omega)) (kindR_mk 2 0)
  obtain ⟨w4,r4,m4,g4⟩:=m3.update (t:=85) keyInt Tryd.underlying85 (by unfold maxLen; omega) (key 3 (by omega) (by omega)) (kindR_mk 2 0)
  obtain ⟨w5,r5,m5,g5⟩:=m4.update (t:=85) keyInt Tryd.underlying85 (by unfold maxLen; omega) (key 4 (by omega) (by omega)) (kindR_mk 2 0)
  obtain ⟨w6,r6,m6,g6⟩:=m5.update (t:=85) keyInt Tryd.underlying85 (by unfold maxLen; omega) (key 5 (by omega) (by omega)) (kindR_mk 2 0)
  obtain ⟨w7,r7,m7,g7⟩:=m6.update (t:=85) keyInt Tryd.underlying85 (by unfold maxLen; omega) (key 6 (by omega) (by omega)) (kindR_mk 2 0)
  obtain ⟨w8,r8,m8,g8⟩:=m7.update (t:=85) keyInt Tryd.underlying85 (by unfold maxLen; omega) (key 7 (by omega) (by omega)) (kindR_mk 3 0)
  have HM:Hid (KindAt w8 w.heap.size n):=hide m8
  have bl:∀ {a b:World},Kept w a→a.grownBy b (some w.heap.size)→Kept w b:=fun h g=>Below.grown h g h.size (fun j hj=>by cases hj; exact Nat.le_refl _)
  have HK:Hid (Kept w w8):=hide (bl (bl (bl (bl (bl (bl (bl (bl ((Kept.refl w).alloc _) g1) g2) g3) g4) g5) g6) g7) g8)
  have hmk:=made
  clear m0 m1 m2 m3 m4 m5 m6 m7 m8 g1 g2 g3 g4 g5 g6 g7 g8 key bl
  go_enter Tryd.func48,Tryd.ntmps48
  go_wp2
  go_ret
  exact ⟨rfl,un HM,un HK⟩
end Go.Proofs.YtogcfkmekdpmmaaDoor
set_option maxRecDepth 100000
set_option maxHeartbeats 8000000
namespace Go.Proofs.YtogcfkmekdpmmaaDoor
open Go.RowKit Go.Maps

theorem NodesAt.cells {w:World} {e:List (Int × Int)} {oa:Option Addr} {m cap:Nat} (he:NodesAt w (.slice oa m cap) e) :
    m=e.length∧∀ i x,e[i]?=some x→∃ b o,oa=some ⟨b,o,none⟩∧w.cell? ⟨b,o + i * 2,none⟩=some (.int .i64 x.1)∧w.cell? ⟨b,o + i * 2 + 1,none⟩=some (.int .i64 x.2):=by
  obtain ⟨oa',cap',e1,_,hi⟩:=he
  obtain ⟨rfl,h,_⟩:oa=oa'∧m=e.length∧cap=cap':=by simpa using e1
  exact ⟨h,hi⟩

theorem field_parts (a b:Int) (u:World):(Instr.field 90 (.agg #[.int .i64 a,.int .i64 b]) 0).run Tryd.prog u=.ok (.int .i64 a) u:=by kernel_rfl
theorem field_most (a b:Int) (u:World):(Instr.field 90 (.agg #[.int .i64 a,.int .i64 b]) 1).run Tryd.prog u=.ok (.int .i64 b) u:=by kernel_rfl

theorem isOne_any (e:List (Int × Int)) (oa:Option Addr) (m cap B:Nat) (n:Int) (w:World) (he:NodesAt w (.slice oa m cap) e) (hB:KindAt w B n) (hl:m≤9) (hk:∀ x∈e,kindOk x) :
    Calls Tryd.prog 49 #[.slice oa m cap,.map (some B)] w fun x w'=>x=.returned (.bool (onlyS e 1))∧Kept w w':=by
  obtain ⟨hm,hi⟩:=he.cells
  have HI:=hide hi
  have HM:=hide hm
  have HB:=hide hB
  have HKS:=hide hk
  clear he hB hi hm hk
  generalize hr:onlyS e 1=rr
  have HR:=hide hr
  clear hr
  go_enter Tryd.func49,Tryd.ntmps49
  go_wp2
  go_loopw [5,10] (fun s8 s9 wr=>∃ (k:Nat) (o:Int),k≤m∧s9=.int .i64 k∧s8=.int .i64 o∧0≤o∧o≤1 + 2 * k∧Hid (onlyS (e.drop k) o=onlyS e 1)∧Hid (Kept w wr)) (fun _ s _=>m - (intOf s).toNat)
  case atStart=>exact ⟨0,1,Nat.zero_le _,rfl,rfl,by omega,by omega,hide rfl,hide (Kept.refl _)⟩
  case round =>
    obtain ⟨k,op,hkm,rfl,rfl,ho0,ho1,HO,HKr⟩:=hrel
    by_cases hlt:k < m
    · obtain ⟨b,o,rfl,c0,c1⟩:=(un HI) k _ (getD_of_lt e k (0,0) (by rw [← un HM]; exact hlt))
      have hx:=getD_of_lt e k (0,0) (by rw [← un HM]; exact hlt)
      have hkx:=(un HKS) _ (List.mem_of_getElem? hx)
      have hst:=onlyS_step hx op
      have HST:=hide hst
      generalize e.getD k (0,0)=x at c0 c1 hkx HST
      obtain ⟨kd,z⟩:=x
      simp only [] at c0 c1
      unfold kindOk at hkx
      simp only [] at hkx
      have hk0:(0:Int)≤(k:Int):=by omega
      have hk1:(k:Int) < (m:Int):=by omega
      have q0:=(un HKr).cell c0
      have q1:=(un HKr).cell c1
      clear hx hst c0 c1
      by_cases hop:op=0
      · obtain rfl:false=rr:=by rw [← un HR,← un HO,un HST,if_pos hop]
        have HK2:=hide ((un HKr).alloc (.cells #[.int .i64 kd,.int .i64 z] 88))
        subst hop
        go_wp2
        go_ret
        exact ⟨rfl,un HK2⟩
      · have HN:Hid (onlyS (e.drop (k + 1)) (op - 1 + partsS kd)=onlyS e 1):=hide (by rw [← un HO,un HST,if_neg hop])
        have hp0:0≤partsS kd∧partsS kd≤3:=by unfold partsS; split <;> (try split) <;> omega
        have bop:(op == 0)=false:=beq_eq_false_iff_ne.2 hop
        obtain ⟨hpa,hpb⟩:=hp0
        have hkk:=(Kept.refl wr).alloc (.cells #[.int .i64 kd,.int .i64 z] 88)
        have hlk:=((un HB).kept ((un HKr).trans hkk)).look (k:=kd) (WalkArith.wf_i64 (by omega)) hkx.1 hkx.2
        have HK2:=hide ((un HKr).trans hkk)
        clear HO HST hkk
        generalize mostS n kd=mo at hlk
        generalize partsS kd=pk at HN hpa hpb hlk
        have hfl:=field_parts pk mo
        go_wp2
        go_roundw
        case rel=>exact ⟨k + 1,op - 1 + pk,by omega,by go_num,by go_num,by omega,by omega,HN,HK2⟩
        case measure=>simp [intOf]; omega
    · have hke:k=e.length:=by have:=un HM; omega
      have hfin:onlyS e 1=decide (op=0):=by rw [← un HO,hke]; simp [onlyS]
      by_cases hop:op=0
      · obtain rfl:true=rr:=by rw [← un HR,hfin]; simp [hop]
        subst hop
        clear hfin hke
        go_wp2
        go_ret
        exact ⟨rfl,un HKr⟩
      · obtain rfl:false=rr:=by rw [← un HR,hfin]; simp [hop]
        have bop:(op == 0)=false:=beq_eq_false_iff_ne.2 hop
        clear hfin hke hop
        go_wp2
        go_ret
        exact ⟨rfl,un HKr⟩

theorem exCheck_low (v:Value) (n:Int) (w:World) (h:n < 0) :
    Calls Tryd.prog 32 #[v,.int .i64 n] w fun x w'=>x=.returned (.int .i64 3)∧Kept w w':=by
  go_enter Tryd.func32,Tryd.ntmps32
  go_wp2
  go_ret
  exact ⟨rfl,Kept.refl _⟩
theorem exCheck_high (v:Value) (n:Int) (w:World) (h0:¬ n < 0) (h:4 < n) :
    Calls Tryd.prog 32 #[v,.int .i64 n] w fun x w'=>x=.returned (.int .i64 3)∧Kept w w':=by
  go_enter Tryd.func32,Tryd.ntmps32
  go_wp2
  go_ret
  exact ⟨rfl,Kept.refl _⟩
theorem exCheck_many (oa:Option Addr) (l cap:Nat) (n:Int) (w:World) (h0:¬ n < 0) (h4:¬ 4 < n) (hl:9 < (l:Int)) :
    Calls Tryd.prog 32 #[.slice oa l cap,.int .i64 n] w fun x w'=>x=.returned (.int .i64 2)∧Kept w w':=by
  go_enter Tryd.func32,Tryd.ntmps32
  go_wp2
  go_ret
  exact ⟨rfl,Kept.refl _⟩

theorem exCheck_go (e:List (Int × Int)) (oa:Option Addr) (m cap:Nat) (n:Int) (w:World) (he:NodesAt w (.slice oa m cap) e) (hw:∀ x∈e,(Lit.int .i64 x.1).wf=true) (h0:¬ n < 0) (h4:¬ 4 < n) (hl:¬ 9 < (m:Int)) :
    Calls Tryd.prog 32 #[.slice oa m cap,.int .i64 n] w fun x w'=>x=.returned (.int .i64 (exErrS e n))∧Kept w w':=by
  obtain ⟨hm,hi⟩:=he.cells
  have HI:=hide hi
  have HM:=hide hm
  have HE:=hide he
  have HW:=hide hw
  have HL:Hid (¬ 9 < e.length):=by rw [← hm]; exact hide (by omega)
  clear he hi hm hw
  generalize hr:exErrS e n=rr
  have HR:=hide hr
  clear hr
  go_enter Tryd.func32,Tryd.ntmps32
  go_wp2_with fail
  refine (kindsOver_any n w (by omega) (by omega)).mono ?_
  rintro _ w1 ⟨rfl,hB,hK1⟩
  have HB:=hide hB
  have HK1:=hide hK1
  clear hB hK1
  generalize w.heap.size=B at HB ⊢
  go_wp2
  go_loopw [25] (fun s wr=>∃ k:Nat,k≤m∧s=.int .i64 k∧Hid (∀ i x,i < k→e[i]?=some x→kindOk x)∧Hid (Kept w1 wr)) (fun s _=>m - (intOf s).toNat)
  case atStart=>exact ⟨0,Nat.zero_le _,rfl,hide (fun i x hi=>by omega),hide (Kept.refl _)⟩
  case round =>
    obtain ⟨k,hkm,rfl,HO,HKr⟩:=hrel
    by_cases hlt:k < m
    · obtain ⟨b,o,rfl,c0,c1⟩:=(un HI) k _ (getD_of_lt e k (0,0) (by rw [← un HM]; exact hlt))
      have hx:=getD_of_lt e k (0,0) (by rw [← un HM]; exact hlt)
      have hwx:=(un HW) _ (List.mem_of_getElem? hx)
      have HX:=hide hx
      generalize e.getD k (0,0)=x at c0 c1 HX hwx
      obtain ⟨kd,z⟩:=x
      simp only [] at c0 c1 hwx
      have hk0:(0:Int)≤(k:Int):=by omega
      have hk1:(k:Int) < (m:Int):=by omega
      have q0:=(un HKr).cell ((un HK1).cell c0)
      have q1:=(un HKr).cell ((un HK1).cell c1)
      have hkk:=(Kept.refl wr).alloc (.cells #[.int .i64 kd,.int .i64 z] 88)
      have hlk:=((un HB).kept ((un HKr).trans hkk)).look_ok (k:=kd) hwx
      have HKK:=hide ((un HKr).trans hkk)
      clear hx c0 c1 hkk hwx
      by_cases hok:0≤kd∧kd≤7
      · have HN:Hid (∀ i x,i < k + 1→e[i]?=some x→kindOk x):=hide (fun i x hi hx=>by
          by_cases hik:i=k
          · subst hik; rw [un HX] at hx; obtain rfl:=Option.some.inj hx; exact hok
          · exact (un HO) i x (by omega) hx)
        rw [if_pos hok,if_pos hok,decide_eq_true hok] at hlk
        generalize partsS kd=pk at hlk
        generalize mostS n kd=mo at hlk
        have HK2:=hide ((un HKK).alloc (.cells #[.int .i64 pk,.int .i64 mo] 90))
        clear hok HO HX
        go_wp2
        go_roundw
        case rel=>exact ⟨k + 1,by omega,by go_num,HN,HK2⟩
        case measure=>simp [intOf]; omega
      · obtain rfl:4=rr:=by rw [← un HR]; exact (exErr_kind (by omega) (by omega) (un HL) k _ (un HX) hok).symm
        rw [if_neg hok,if_neg hok,decide_eq_false hok] at hlk
        have HK2:=hide ((un HK1).trans ((un HKK).alloc (.cells #[.int .i64 0,.int .i64 0] 90)))
        clear hok HO HX
        go_wp2
        go_ret
        exact ⟨rfl,un HK2⟩
    · have hke:k=e.length:=by have:=un HM; omega
      have HKS:Hid (∀ x∈e,kindOk x):=hide (all_of (fun i x hi hx=>(un HO) i x (by omega) hx))
      have HKR:=HKr
      have HBr:=hide ((un HB).kept (un HKr))
      have HKw:=hide ((un HK1).trans (un HKr))
      clear HO hke HKr HKR HK1 HB
      go_wp2
      go_loopw [41] (fun s wx=>∃ k:Nat,k≤m∧s=.int .i64 k∧Hid (∀ i x,i < k→e[i]?=some x→numOk n x)∧Hid (Kept wr wx)) (fun s _=>m - (intOf s).toNat)
      case atStart=>exact ⟨0,Nat.zero_le _,rfl,hide (fun i x hi=>by omega),hide (Kept.refl _)⟩
      case round =>
        obtain ⟨k,hkm,rfl,HO,HKr⟩:=hrel
        by_cases hlt:k < m
        · obtain ⟨b,o,rfl,c0,c1⟩:=(un HI) k _ (getD_of_lt e k (0,0) (by rw [← un HM]; exact hlt))
          have hx:=getD_of_lt e k (0,0) (by rw [← un HM]; exact hlt)
          have hkx:=(un HKS) _ (List.mem_of_getElem? hx)
          have HX:=hide hx
          generalize e.getD k (0,0)=x at c0 c1 HX hkx
          obtain ⟨kd,z⟩:=x
          simp only [] at c0 c1
          unfold kindOk at hkx
          simp only [] at hkx
          have hk0:(0:Int)≤(k:Int):=by omega
          have hk1:(k:Int) < (m:Int):=by omega
          have q0:=(un HKr).cell ((un HKw).cell c0)
          have q1:=(un HKr).cell ((un HKw).cell c1)
          have hkk:=(Kept.refl wr).alloc (.cells #[.int .i64 kd,.int .i64 z] 88)
          have hlk:=((un HBr).kept ((un HKr).trans hkk)).look (k:=kd) (WalkArith.wf_i64 (by omega)) hkx.1 hkx.2
          have HKK:=hide ((un HKr).trans hkk)
          have HNX:Hid (numOk n (kd,z)→∀ i x,i < k + 1→e[i]?=some x→numOk n x):=hide (fun hok i x hi hx=>by
            by_cases hik:i=k
            · rw [hik,un HX] at hx; rw [← Option.some.inj hx]; exact hok
            · exact (un HO) i x (by omega) hx)
          have HBX:Hid (¬ numOk n (kd,z)→rr=3):=hide (fun hok=>by rw [← un HR]; exact exErr_num (by omega) (by omega) (un HL) (un HKS) k _ (un HX) hok)
          have HDF:Hid (numOk n (kd,z)↔0≤z∧z≤mostS n kd):=hide Iff.rfl
          clear hx c0 c1 hkk hkx HX HO
          generalize partsS kd=pk at hlk
          generalize mostS n kd=mo at hlk HDF
          have hfl:=field_most pk mo
          by_cases hz:z < 0
          · obtain rfl:3=rr:=((un HBX) (fun h=>by have:=((un HDF).1 h).1; omega)).symm
            have HK2:=hide ((un HKw).trans (un HKK))
            clear HNX HBX HDF
            go_wp2
            go_ret
            exact ⟨rfl,un HK2⟩
          · by_cases hzm:mo < z
            · obtain rfl:3=rr:=((un HBX) (fun h=>by have:=((un HDF).1 h).2; omega)).symm
              have HK2:=hide ((un HKw).trans (un HKK))
              clear HNX HBX HDF
              go_wp2
              go_ret
              exact ⟨rfl,un HK2⟩
            · have HN:=hide ((un HNX) ((un HDF).2 ⟨by omega,by omega⟩))
              clear HNX HBX HDF
              go_wp2
              go_roundw
              case rel=>exact ⟨k + 1,by omega,by go_num,HN,HKK⟩
              case measure=>simp [intOf]; omega
        · have hke:k=e.length:=by have:=un HM; omega
          have HNS:Hid (∀ x∈e,numOk n x):=hide (all_of (fun i x hi hx=>(un HO) i x (by omega) hx))
          have HRR:Hid (rr=if onlyS e 1=true then 0 else 1):=hide (by rw [← un HR]; exact exErr_one (by omega) (by omega) (un HL) (un HKS) (un HNS))
          have HKx:=hide ((un HKw).trans (un HKr))
          have HC:=hide (isOne_any e oa m cap B n wr ((un HE).kept (un HKx)) ((un HBr).kept (un HKr)) (by omega) (un HKS))
          clear HO hke HNS HR
          go_wp2_with fail
          refine (un HC).mono ?_
          rintro _ w4 ⟨rfl,hk4⟩
          have HK4:=hide ((un HKx).trans hk4)
          clear hk4 HC
          by_cases h1:onlyS e 1=true
          · obtain rfl:0=rr:=by rw [un HRR,if_pos h1]
            rw [h1]
            clear h1 HRR
            go_wp2
            go_ret
            exact ⟨rfl,un HK4⟩
          · obtain rfl:1=rr:=by rw [un HRR,if_neg h1]
            rw [Bool.not_eq_true] at h1
            rw [h1]
            clear h1 HRR
            go_wp2
            go_ret
            exact ⟨rfl,un HK4⟩

theorem exCheck_any (e:List (Int × Int)) (v:Value) (n:Int) (w:World) (he:NodesAt w v e) (hw:∀ x∈e,(Lit.int .i64 x.1).wf=true) :
    Calls Tryd.prog 32 #[v,.int .i64 n] w fun x w'=>x=.returned (.int .i64 (exErrS e n))∧Kept w w':=by
  obtain ⟨oa,cap,rfl,hl,hi⟩:=id he
  by_cases h0:n < 0
  · rw [exErr_locals (.inl h0)]; exact exCheck_low _ n w h0
  · by_cases h4:4 < n
    · rw [exErr_locals (.inr h4)]; exact exCheck_high _ n w h0 h4
    · by_cases h9:9 < e.length
      · rw [exErr_many (by omega) (by omega) h9]
        exact exCheck_many oa _ cap n w h0 h4 (by omega)
      · exact exCheck_go e oa _ cap n w he hw h0 h4 (by omega)
end Go.Proofs.YtogcfkmekdpmmaaDoor
set_option maxRecDepth 100000
set_option maxHeartbeats 8000000
namespace Go.Proofs.YtogcfkmekdpmmaaDoor
open Go.RowKit Go.Maps

theorem exTruth_any (b:Bool) (w:World):Calls Tryd.prog 70 #[.bool b] w fun e w'=>e=.returned (.int .i64 (if b=true then 1 else 0))∧w=w':=by
  cases b
  · go_enter Tryd.func70,Tryd.ntmps70
    go_wp2
    go_ret
    exact ⟨rfl,rfl⟩
  · go_enter Tryd.func70,Tryd.ntmps70
    go_wp2
    go_ret
    exact ⟨rfl,rfl⟩

theorem ofTwo_any (k a b:Int) (w:World) (h2:2≤k) (h6:k≤6):Calls Tryd.prog 53 #[.int .i64 k,.int .i64 a,.int .i64 b] w fun e w'=>e=.returned (.int .i64 (twoS k a b))∧w=w':=by
  generalize hv:twoS k a b=q
  have HV:=hide hv
  clear hv
  by_cases k2:k=2
  · subst k2
    go_enter Tryd.func53,Tryd.ntmps53
    go_wp2
    go_ret
    exact ⟨by rw [← un HV]; simp [twoS],rfl⟩
  · by_cases k3:k=3
    · subst k3
      go_enter Tryd.func53,Tryd.ntmps53
      go_wp2
      go_ret
      exact ⟨by rw [← un HV]; simp [twoS],rfl⟩
    · by_cases k4:k=4
      · subst k4
        go_enter Tryd.func53,Tryd.ntmps53
        go_wp2
        go_ret
        exact ⟨by rw [← un HV]; simp [twoS],rfl⟩
      · by_cases k5:k=5
        · subst k5
          go_enter Tryd.func53,Tryd.ntmps53
          go_wp2_with fail
          refine (exTruth_any _ _).mono ?_
          rintro _ _ ⟨rfl,rfl⟩
          generalize hT:(if decide (a < b)=true then (1:Int) else 0)=tt
          have HT:=hide hT
          clear hT
          go_wp2
          go_ret
          exact ⟨by rw [← un HV,← un HT]; simp [twoS],rfl⟩
        · obtain rfl:k=6:=by omega
          go_enter Tryd.func53,Tryd.ntmps53
          go_wp2_with fail
          refine (exTruth_any _ _).mono ?_
          rintro _ _ ⟨rfl,rfl⟩
          generalize hT:(if decide (a=b)=true then (1:Int) else 0)=tt
          have HT:=hide hT
          clear hT
          go_wp2
          go_ret
          exact ⟨by rw [← un HV,← un HT]; simp [twoS],rfl⟩

def ValPost (vals:List Int) (W0:World) (vv:Value) (B n:Nat) (e:List (Int × Int)) (w:World) (x:Ending) (w':World):Prop :=
  ∃ v',x=.returned (.int .i64 (valS vals n e).1)∧NodesAt W0 v' (valS vals n e).2∧w'.heap[B]?=some (.cells #[v',vv] 69)∧KeptX B w w'

theorem value_any (vals:List Int) (W0:World) (vv:Value) (B:Nat) (hvv:IntsW W0 vv vals) (hB0:W0.heap.size≤B):∀ (n:Nat) (e:List (Int × Int)) (o:Int) (v:Value) (w:World),e.length≤n→1≤o→onlyS e o=true→(∀ x∈e,kindOk x)→(∀ x∈e,numOk vals.length x)→NodesAt W0 v e →
    Kept W0 w→w.heap[B]?=some (.cells #[v,vv] 69)→Calls Tryd.prog 38 #[.pointer (some ⟨B,0,none⟩)] w (ValPost vals W0 vv B n e w)
  | n,[],o,v,w,_,ho,h,_,_,_,_,_=>by simp [onlyS] at h; omega
  | 0,x :: r,o,v,w,hl,_,_,_,_,_,_,_=>by simp at hl
  | n + 1,(k,z) :: r,o,v,w,hl,ho,h,hk,hn,hv,hkw,hB=>by
    have hx:=hk (k,z) (by simp)
    have hy:=hn (k,z) (by simp)
    obtain ⟨b,o1,cap,rfl,hcap,hrl,c0,c1,hrest⟩:=hv.first
    unfold kindOk at hx
    unfold numOk mostS at hy
    have hl9:r.length≤n:=by simpa using hl
    obtain ⟨ob,cb,rfl,hlv,_⟩:=id hvv
    obtain ⟨oa,hoa,hsl⟩:=cut_first b o1 r.length cap hcap
    have hBlt:B < w.heap.size:=(Array.getElem?_eq_some_iff.1 hB).1
    have HNR:Hid (NodesAt W0 (.slice oa r.length (cap - 1)) r):=hide (hrest (cap - 1) oa (by omega) (fun hne=>hoa (by simpa using hne)))
    have HH:=hide (show onlyS r (o - 1 + partsS k)=true by simp only [onlyS] at h; rwa [if_neg (by omega)] at h)
    have HK:=hide (show ∀ y∈r,kindOk y from fun y hy=>hk y (by simp [hy]))
    have HN:=hide (show ∀ y∈r,numOk vals.length y from fun y hy=>hn y (by simp [hy]))
    have q0:=hkw.cell c0
    have q1:=hkw.cell c1
    have p0:w.cell? ⟨B,0,none⟩=some (.slice (some ⟨b,o1,none⟩) (r.length + 1) cap):=cell_lays hB 0
    have hA:=lays_alloc hB (.cells #[.int .i64 k,.int .i64 z] 88)
    have p1:(w.alloc (.cells #[.int .i64 k,.int .i64 z] 88)).cell? ⟨B,0,none⟩=some (.slice (some ⟨b,o1,none⟩) (r.length + 1) cap):=cell_lays hA 0
    have f1:(w.alloc (.cells #[.int .i64 k,.int .i64 z] 88)).frozen? ⟨B,0,none⟩=false:=frozen_lays hA 0
    have hS:=lays_set hA 0 (.slice oa r.length (cap - 1))
    have l0:=lays_other (lays_new (w:=w) (o:=.cells #[.int .i64 k,.int .i64 z] 88) rfl) (a:=⟨B,0,none⟩) (by simp; omega) (.slice oa r.length (cap - 1))
    have d0:=cell_lays l0 0
    have d1:=cell_lays l0 1
    have HS:Hid (((w.alloc (.cells #[.int .i64 k,.int .i64 z] 88)).setCell ⟨B,0,none⟩ (.slice oa r.length (cap - 1))).heap[B]?=some (.cells #[.slice oa r.length (cap - 1),.slice ob vals.length cb] 69)):=hide hS
    have HX:Hid (KeptX B w ((w.alloc (.cells #[.int .i64 k,.int .i64 z] 88)).setCell ⟨B,0,none⟩ (.slice oa r.length (cap - 1)))):=hide (((KeptX.refl B w).alloc _).setCell (.inl rfl) _)
    have HKW:Hid (Kept W0 ((w.alloc (.cells #[.int .i64 k,.int .i64 z] 88)).setCell ⟨B,0,none⟩ (.slice oa r.length (cap - 1)))):=hide (KeptX.kept hkw hB0 (un HX))
    have HVV:=hide hvv
    have HBL:=hide hBlt
    have h1i:(1:Int)≤((r.length + 1:Nat):Int):=by omega
    have h2i:(0:Int) < ((r.length + 1:Nat):Int):=by omega
    clear hv hrest hoa hA hS l0 hvv hkw hB c0 c1 h hk hn hl hBlt
    by_cases h0:k=0
    · have hv:valS vals (n + 1) ((k,z) :: r)=(z,r):=by unfold valS; rw [if_pos h0]
      have HVS:=hide hv
      clear hv
      subst h0
      go_enter Tryd.func38,Tryd.ntmps38
      go_wp2
      go_ret
      exact ⟨.slice oa r.length (cap - 1),by rw [un HVS]; rfl,by rw [un HVS]; exact un HNR,un HS,un HX⟩
    · by_cases h1:k=1
      · have hv:valS vals (n + 1) ((k,z) :: r)=(vals.getD z.toNat 0,r):=by unfold valS; rw [if_neg h0,if_pos h1]
        subst h1
        have hz:0≤z∧z < vals.length:=by simp at hy; omega
        obtain ⟨zn,rfl⟩:∃ zn:Nat,z=zn:=⟨z.toNat,by omega⟩
        obtain ⟨bv,ov,cv,ev,cz⟩:=(un HVV).at (i:=zn) (by omega)
        obtain ⟨rfl,rfl⟩:ob=some ⟨bv,ov,none⟩∧cb=cv:=by simpa using ev
        obtain ⟨hz0,hz1⟩:=hz
        have hzz:((zn:Int)).toNat=zn:=by omega
        rw [hzz] at hv
        have cz2:=(un HKW).cell cz
        have p2:=cell_lays (un HS) 1
        generalize vals.getD zn 0=q at cz cz2 hv
        have HVS:=hide hv
        clear hv ev hzz cz
        go_enter Tryd.func38,Tryd.ntmps38
        go_wp2_with fail
        go_quiet (fail)
        go_wp2
        go_ret
        exact ⟨.slice oa r.length (cap - 1),by rw [un HVS]; rfl,by rw [un HVS]; exact un HNR,un HS,(un HX).trans (.of ((Kept.refl _).drewN _))⟩
      · have hp:2≤partsS k:=by unfold partsS; rw [if_neg (by omega)]; split <;> omega
        have hb0:(k == 0)=false:=beq_eq_false_iff_ne.2 h0
        have hb1:(k == 1)=false:=beq_eq_false_iff_ne.2 h1
        obtain ⟨x1,x2,x3,x4⟩:=val_next vals n r (o - 1 + partsS k) vals.length hl9 (by omega) (un HH) (un HK) (un HN)
        have X1:=hide (And.intro x1 (And.intro x2 (And.intro x3 x4)))
        clear x1 x2 x3 x4
        have HC:=hide (value_any vals W0 _ B (un HVV) hB0 n r (o - 1 + partsS k) _ _ hl9 (by omega) (un HH) (un HK) (un HN) (un HNR) (un HKW) (un HS))
        go_enter Tryd.func38,Tryd.ntmps38
        go_wp2_with fail
        generalize (w.alloc (.cells #[.int .i64 k,.int .i64 z] 88)).setCell ⟨B,0,none⟩ (.slice oa r.length (cap - 1))=w1 at HC HX HKW d0 d1 HS ⊢
        refine (un HC).mono ?_
        rintro _ w2 ⟨v2,rfl,hn2,hB2,hk2⟩
        have hne:w.heap.size≠B:=by have:=un HBL; omega
        generalize w.heap.size=Bx at d0 d1 hne ⊢
        have d2:=hk2.cell (p:=⟨Bx,0,none⟩) hne d0
        have HK2:=hide ((un HX).trans hk2)
        have HKW2:=hide (KeptX.kept (un HKW) hB0 hk2)
        have HN2:=hide hn2
        have HB2:=hide hB2
        clear hn2 hk2 hB2 d0 d1 HC HX HKW HS HNR
        obtain ⟨x1,x2,x3,x4⟩:=un X1
        obtain ⟨y1,y2,y3,y4⟩:=val_next vals n _ (o - 1 + partsS k - 1) vals.length x1 (by omega) x2 x3 x4
        have X2:=hide (And.intro y1 (And.intro y2 (And.intro y3 y4)))
        have HC:=hide (value_any vals W0 _ B (un HVV) hB0 n _ (o - 1 + partsS k - 1) _ _ x1 (by omega) x2 x3 x4 (un HN2) (un HKW2) (un HB2))
        clear y1 y2 y3 y4 x1 x2 x3 x4
        go_wp2_with fail
        refine (un HC).mono ?_
        rintro _ w3 ⟨v3,rfl,hn3,hB3,hk3⟩
        have d3:=hk3.cell (p:=⟨Bx,0,none⟩) hne d2
        have HK3:=hide ((un HK2).trans hk3)
        have HKW3:=hide (KeptX.kept (un HKW2) hB0 hk3)
        have HN3:=hide hn3
        have HB3:=hide hB3
        clear hn3 hk3 hB3 d2 HK2 HN2 HC HB2 HKW2
        by_cases h7:k=7
        · have hv:valS vals (n + 1) ((k,z) :: r)=(if (valS vals n r).1=0 then (valS vals n (valS vals n (valS vals n r).2).2).1 else (valS vals n (valS vals n r).2).1,(valS vals n (valS vals n (valS vals n r).2).2).2):=by
            conv=>lhs; unfold valS
            rw [if_neg h0,if_neg h1,if_pos h7]
          have hp3:partsS k=3:=by rw [h7]; rfl
          rw [hp3] at X2
          clear hp X1 HH
          subst h7
          generalize (valS vals n r).1=va at hv ⊢
          generalize (valS vals n (valS vals n r).2).1=vb at hv ⊢
          generalize hq:(valS vals n (valS vals n r).2).2=r2 at hv X2 HN3 ⊢
          clear hq
          have HVS:=hide hv
          clear hv
          obtain ⟨x1,x2,x3,x4⟩:=un X2
          have HC:=hide (value_any vals W0 _ B (un HVV) hB0 n r2 (o - 1 + 3 - 1 - 1) _ _ x1 (by omega) x2 x3 x4 (un HN3) (un HKW3) (un HB3))
          clear x1 x2 x3 x4
          go_wp2_with fail
          refine (un HC).mono ?_
          rintro _ w4 ⟨v4,rfl,hn4,hB4,hk4⟩
          have HK4:=hide ((un HK3).trans hk4)
          have HN4:=hide hn4
          have HB4:=hide hB4
          clear hn4 hk4 hB4 X2 HC
          generalize (valS vals n r2).1=vc at HVS ⊢
          generalize (valS vals n r2).2=r3 at HVS HN4
          by_cases ha:va=0
          · subst ha
            go_wp2
            go_ret
            exact ⟨v4,by rw [un HVS]; simp,by rw [un HVS]; exact un HN4,un HB4,un HK4⟩
          · have hba:(va != 0)=true:=bne_iff_ne.2 ha
            have HA:=hide ha
            clear ha
            go_wp2
            go_ret
            exact ⟨v4,by rw [un HVS]; simp [un HA],by rw [un HVS]; exact un HN4,un HB4,un HK4⟩
        · have hv:valS vals (n + 1) ((k,z) :: r)=(twoS k (valS vals n r).1 (valS vals n (valS vals n r).2).1,(valS vals n (valS vals n r).2).2):=by
            conv=>lhs; unfold valS
            rw [if_neg h0,if_neg h1,if_neg h7]
          clear hp X1 X2 HH
          generalize (valS vals n r).1=va at hv ⊢
          generalize (valS vals n (valS vals n r).2).1=vb at hv ⊢
          generalize (valS vals n (valS vals n r).2).2=r2 at hv HN3
          have HVS:=hide hv
          clear hv
          have b7:(k != 7)=true:=bne_iff_ne.2 h7
          have HC:=hide (ofTwo_any k va vb w3 (by omega) (by omega))
          go_wp2_with fail
          refine (un HC).mono ?_
          rintro _ _ ⟨rfl,rfl⟩
          clear HC
          generalize twoS k va vb=q at HVS ⊢
          go_wp2
          go_ret
          exact ⟨v3,by rw [un HVS]; rfl,by rw [un HVS]; exact un HN3,un HB3,un HK3⟩

theorem exValue_any (e:List (Int × Int)) (vals:List Int) (v vv:Value) (w:World) (he:NodesAt w v e) (hw:∀ x∈e,(Lit.int .i64 x.1).wf=true) (hv:IntsW w vv vals) :
    Calls Tryd.prog 19 #[v,vv] w fun x w'=>x=.returned (.tuple #[.int .i64 (exValS e vals),.int .i64 (exErrS e vals.length)])∧Kept w w':=by
  obtain ⟨ob,cb,rfl,hlv,_⟩:=id hv
  obtain ⟨oe',ce',rfl,_,_⟩:=id he
  have HE:=hide he
  have HV:=hide hv
  have HX:=hide (exCheck_any e _ vals.length w he hw)
  clear he hv hw
  by_cases hz:exErrS e vals.length=0
  · obtain ⟨_,_,l9,ke,ne,oe⟩:=exErr_ok hz
    have hval:exValS e vals=(valS vals 9 e).1:=by unfold exValS; rw [if_pos hz]
    rw [hz,hval]
    have HZ:=hide hz
    go_enter Tryd.func19,Tryd.ntmps19
    go_wp2_with fail
    refine (un HX).mono ?_
    rintro _ w1 ⟨rfl,hk1⟩
    rw [un HZ]
    have hk2:=hk1.alloc (.cells #[.slice oe' e.length ce',.slice ob vals.length cb] 69)
    have HW:=hide (value_any vals w (.slice ob vals.length cb) w1.heap.size (un HV) hk1.size 9 e 1 _ _ l9 (by omega) oe ke ne (un HE) hk2 (lays_new rfl))
    have HS:=hide hk1.size
    have HK2:=hide hk2
    clear hk1 hk2 hz hval l9 ke ne oe
    go_wp2_with fail
    refine (un HW).mono ?_
    rintro _ w2 ⟨v2,rfl,hn2,hB2,hk3⟩
    have HK3:=hide (KeptX.kept (un HK2) (un HS) hk3)
    clear hn2 hB2 hk3 HW HX
    go_wp2
    go_ret2
    exact ⟨rfl,un HK3⟩
  · have hval:exValS e vals=0:=by unfold exValS; rw [if_neg hz]
    rw [hval]
    have hb:(exErrS e vals.length != 0)=true:=bne_iff_ne.2 hz
    generalize exErrS e vals.length=q at hz hb HX ⊢
    clear hval hz
    go_enter Tryd.func19,Tryd.ntmps19
    go_wp2_with fail
    refine (un HX).mono ?_
    rintro _ w1 ⟨rfl,hk1⟩
    have HK1:=hide hk1
    clear hk1
    go_wp2
    go_ret2
    exact ⟨rfl,un HK1⟩
end Go.Proofs.YtogcfkmekdpmmaaDoor
set_option maxRecDepth 100000
set_option maxHeartbeats 8000000
namespace Go.Proofs.YtogcfkmekdpmmaaDoor
open Go.RowKit Go.Maps

def nodesL:List (Int × Int):=[(7,0),(5,0),(1,0),(0,5),(4,0),(1,0),(1,0),(0,7)]
def flatNodes (c:List (Int × Int)):List Value:=c.flatMap fun x=>[.int .i64 x.1,.int .i64 x.2]
theorem flatNodes_at:∀ (c:List (Int × Int)) (i:Nat) (x:Int × Int),c[i]?=some x→(flatNodes c)[i * 2]?=some (.int .i64 x.1)∧(flatNodes c)[i * 2 + 1]?=some (.int .i64 x.2)
  | [],i,x,h=>by simp at h
  | y :: c,0,x,h=>by simp at h; subst h; simp [flatNodes]
  | y :: c,i + 1,x,h=>by
    have:=flatNodes_at c i x (by simpa using h)
    have e:flatNodes (y :: c)=.int .i64 y.1 :: .int .i64 y.2 :: flatNodes c:=by simp [flatNodes]
    rw [e,show (i + 1) * 2=i * 2 + 1 + 1 by omega]
    simpa using this
theorem nodesAt_block {w:World} {b:Nat} {A:Array Value} {t:TypeId} {fr:Nat × Nat} (h:w.heap[b]?=some (.cells A t fr)) (c d:List (Int × Int)) (hA:A=(flatNodes (c++d)).toArray) (hl:c.length≤8796093022208) (n cap:Nat) (hn:n=c.length) (hc:n≤cap) :
    NodesAt w (.slice (some ⟨b,0,none⟩) n cap) c:=by
  subst hn hA
  refine ⟨_,_,rfl,⟨hl,hc⟩,fun i x hx=>⟨b,0,rfl,?_,?_⟩⟩
  · have hx':(c++d)[i]?=some x:=by rw [List.getElem?_append_left (List.getElem?_eq_some_iff.1 hx).1]; exact hx
    rw [cell_lays h]; simpa using (flatNodes_at (c++d) i x hx').1
  · have hx':(c++d)[i]?=some x:=by rw [List.getElem?_append_left (List.getElem?_eq_some_iff.1 hx).1]; exact hx
    rw [cell_lays h]; simpa using (flatNodes_at (c++d) i x hx').2
theorem intsW_block {w:World} {b:Nat} {A:Array Value} {t:TypeId} {fr:Nat × Nat} (h:w.heap[b]?=some (.cells A t fr)) (l:List Int) (hA:A=(l.map fun z=>Value.int .i64 z).toArray) (hl:l.length≤17592186043904) (n cap:Nat) (hn:n=l.length) :
    IntsW w (.slice (some ⟨b,0,none⟩) n cap) l:=by
  subst hn hA
  refine ⟨_,_,rfl,hl,fun i z hz=>⟨b,0,rfl,?_⟩⟩
  rw [cell_lays h]
  simp [hz]

theorem nodes_any (w:World):Calls Tryd.prog 37 #[] w fun e w'=>∃ b,e=.returned (.slice (some ⟨b,0,none⟩) 8 8)∧w'.heap[b]?=some (.cells (flatNodes nodesL).toArray 88)∧Kept w w':=by
  go_enter Tryd.func37,Tryd.ntmps37
  go_wp2
  go_ret
  exact ⟨_,rfl,lays_new rfl,(Kept.refl _).alloc _⟩

theorem nodesL_wf:∀ x∈nodesL,(Lit.int .i64 x.1).wf=true:=by decide

theorem exValue_is (e:List (Int × Int)) (vals:List Int) (v vv:Value) (a b:Int) (w:World) (he:NodesAt w v e) (hw:∀ x∈e,(Lit.int .i64 x.1).wf=true) (hv:IntsW w vv vals) (ha:exValS e vals=a) (hb:exErrS e vals.length=b) :
    Calls Tryd.prog 19 #[v,vv] w fun x w'=>x=.returned (.tuple #[.int .i64 a,.int .i64 b])∧Kept w w':=by
  subst ha hb
  exact exValue_any e vals v vv w he hw hv
theorem exCheck_is (e:List (Int × Int)) (v:Value) (n a:Int) (w:World) (he:NodesAt w v e) (hw:∀ x∈e,(Lit.int .i64 x.1).wf=true) (ha:exErrS e n=a) :
    Calls Tryd.prog 32 #[v,.int .i64 n] w fun x w'=>x=.returned (.int .i64 a)∧Kept w w':=by
  subst ha
  exact exCheck_any e v n w he hw

theorem NodesAt.of_nodes {w:World} {b:Nat} (h:w.heap[b]?=some (.cells (flatNodes nodesL).toArray 88)):NodesAt w (.slice (some ⟨b,0,none⟩) 8 8) nodesL:=nodesAt_block h nodesL [] (by simp) (by decide) 8 8 rfl (by omega)
theorem NodesAt.of_seven {w:World} {b:Nat} (h:w.heap[b]?=some (.cells (flatNodes nodesL).toArray 88)):NodesAt w (.slice (some ⟨b,0,none⟩) 7 8) (nodesL.take 7):=nodesAt_block h (nodesL.take 7) [(0,7)] rfl (by decide) 7 8 rfl (by omega)

end Go.Proofs.YtogcfkmekdpmmaaDoor
