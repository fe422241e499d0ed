/-
  The statement StepOne: its walk, of the contracts of what it calls.
-/
import Derived.Test.YtadckjclgakcaaaGreatDoorSBG
import Derived.Test.YtadckjclgakcaaaGreatDoorTakesQ
import Derived.Test.YtadckjclgakcaaaGreatDoorXB17
import Derived.Deep.DeepCutAuto
import Derived.Deep.RegionHeld3
set_option maxRecDepth 100000
set_option maxHeartbeats 8000000
namespace Go.Proofs.YtadckjclgakcaaaGreatDoor
open Go.RowKit

theorem stepOne_w (vp:Value) (w:World) (s r:St) (se:Int) (oa oo:Option Addr) (N M cap co:Nat) (nn:Int) (hcap:N≤cap)
    (HS:Hid (StAt w (.agg #[.slice oa N cap,.int .i64 nn,.slice oo M co]) s))
    (HD:Hid (∀ u,Kept w u→GivesCp 9 #[vp,.agg #[.slice oa N cap,.int .i64 nn,.slice oo M co]] u r [.int .i64 se]))
    (HSI:Hid (∀ u l v1 v2,IntsW u v1 l→IntsW u v2 l→Calls Tryz.prog 14 #[v1,v2] u fun e w'=>e=.returned (.bool true)∧Kept u w'))
    (HSS:Hid (∀ u v1 v2 s,StAt u v1 s→StAt u v2 s→Calls Tryz.prog 12 #[v1,v2] u fun e w'=>e=.returned (.bool true)∧Kept u w'))
    (HRB:Hid (∀ u,Kept w u→Calls Tryz.prog 11 #[] u fun e w'=>e=.returned (.bool true)∧Kept u w'))
    (hgood:se=0→s.fibers.length≤5∧s.out.length≤30∧(r.fibers.length=s.fibers.length∨r.fibers.length=s.fibers.length + 1)∧(∃ l,r.out=s.out++l∧l.length≤1)∧∀ k,k < s.fibers.length→(k:Int)≠s.now→(k:Int)≠r.now→fibAt r k=fibAt s k) :
    Calls Tryz.prog 5 #[vp,.agg #[.slice oa N cap,.int .i64 nn,.slice oo M co]] w fun e w'=>e=.returned (.bool true)∧Kept w w':=by
  have HG:=hide hgood
  have HPs:=hide (stAt_parts (un HS))
  clear hgood
  go_enter Tryz.func5,Tryz.ntmps5
  go_wp2_with fail
  obtain ⟨k9,l9⟩:=box_st (Kept.refl w) #[.slice oa N cap,.int .i64 nn,.slice oo M co] 26
  generalize w.alloc (.cells #[.slice oa N cap,.int .i64 nn,.slice oo M co] 26)=w1 at *
  generalize w.heap.size=B0 at *
  replace HS:=hide ((un HS).kept k9)
  have HL:=hide l9
  have HK:=hide k9
  clear k9 l9
  refine ((un HD) _ (un HK)).mono ?_
  rintro _ wa ⟨ob,na,ca,za,oq,ma,da,rfl,hs,hcp,hk⟩
  replace HK:=hide ((un HK).trans hk)
  replace HL:=hide (lays_kept hk (un HL))
  replace HS:=hide ((un HS).kept hk)
  have HR:=hide hs
  have HCP:=hide hcp
  have HPa:=hide (stAt_parts hs)
  clear hs hcp hk HD
  by_cases hz:se=0
  · subst hz
    obtain ⟨g1,g2,g3,⟨l,hl,hl1⟩,g5⟩:=(un HG) rfl
    obtain ⟨e1,e2,e3⟩:=un HPs
    obtain ⟨f1,f2,f3⟩:=un HPa
    have HI1:=hide (stAt_out (un HS))
    have hi2:=stAt_out (un HR)
    rw [hl] at hi2
    have HI2:=hide (intsW_take hi2)
    rw [← e3] at HI2
    rw [hl,List.length_append,← e3] at f3
    rw [← e2] at g1 g3
    rw [← f2] at g3
    rw [← e3] at g2
    have hcr:=(un HCP).1
    have hco:=(un HCP).2.1
    have u1:¬ ((na:Int) < (N:Int)):=by omega
    have u2:¬ ((na:Int) > (N:Int) + 1):=by omega
    have u3:¬ ((ma:Int) < (M:Int)):=by omega
    have u4:¬ ((ma:Int) > (M:Int) + 1):=by omega
    have v1:decide ((na:Int) < (N:Int))=false:=decide_eq_false u1
    have v2:decide ((na:Int) > (N:Int) + 1)=false:=decide_eq_false u2
    have v3:decide ((ma:Int) < (M:Int))=false:=decide_eq_false u3
    have v4:decide ((ma:Int) > (M:Int) + 1)=false:=decide_eq_false u4
    have v5:decide (na < N)=false:=decide_eq_false (by omega)
    have v6:decide (ma < M)=false:=decide_eq_false (by omega)
    have v7:decide ((N:Int) + 1 < (na:Int))=false:=decide_eq_false (by omega)
    have v8:decide ((M:Int) + 1 < (ma:Int))=false:=decide_eq_false (by omega)
    have hwn:IntKind.i64.wrap ((N:Int) + 1)=(N:Int) + 1:=wrap_tiny _ (by omega) (by omega)
    have hwm:IntKind.i64.wrap ((M:Int) + 1)=(M:Int) + 1:=wrap_tiny _ (by omega) (by omega)
    have hmd:M≤da:=by omega
    have HG5:Hid (∀ k,k < N→(k:Int)≠nn→(k:Int)≠za→fibAt r k=fibAt s k):=hide (fun k h1 h2 h3=>g5 k (by omega) (by rw [← e1]; exact h2) (by rw [← f1]; exact h3))
    have HE:=hide (And.intro e2 f2)
    have HNN:Hid (N≤na):=hide (by omega)
    have hN5:N≤5:=g1
    clear g1 g2 g3 g5 e1 e2 e3 f1 f2 f3 hl hl1 hi2 HG HPs HPa
    go_wp2_with fail
    obtain ⟨kb,lb⟩:=box_st (Kept.refl wa) #[.slice ob na ca,.int .i64 za,.slice oq ma da] 26
    generalize wa.alloc (.cells #[.slice ob na ca,.int .i64 za,.slice oq ma da] 26)=xa at *
    generalize wa.heap.size=B1 at *
    replace HK:=hide ((un HK).trans kb)
    replace HL:=hide (lays_kept kb (un HL))
    have HT:=hide lb
    replace HI1:=hide ((un HI1).kept kb)
    replace HI2:=hide ((un HI2).kept kb)
    replace HS:=hide ((un HS).kept kb)
    replace HR:=hide ((un HR).kept kb)
    clear kb lb
    have HY:Hid (∀ y,Kept xa y→y.cell? ⟨B1,0,none⟩=some (.slice ob na ca)∧y.cell? ⟨B1,2,none⟩=some (.slice oq ma da)∧y.cell? ⟨B0,0,none⟩=some (.slice oa N cap)∧y.cell? ⟨B0,2,none⟩=some (.slice oo M co)) :=
      hide (fun y hy=>⟨hy.cell (cell_lays (un HT) 0),hy.cell (cell_lays (un HT) 2),hy.cell (cell_lays (un HL) 0),hy.cell (cell_lays (un HL) 2)⟩)
    refine wp_region_held_drew (S:=fun y=>y.cell? ⟨B1,0,none⟩=some (.slice ob na ca)∧y.cell? ⟨B1,2,none⟩=some (.slice oq ma da)∧y.cell? ⟨B0,0,none⟩=some (.slice oa N cap)∧y.cell? ⟨B0,2,none⟩=some (.slice oo M co)) (by kernel_rfl) ((un HY) _ (Kept.drew (Kept.refl _))) (fun hHeld=>?_)
    refine planY [0,1,2,3,4,5,6,7,8,9,10,11,12,13,14,15,16,17,18,19,20,21,22,23,24,25,26,27,28,29,30,31,32,33,34,35,36,37,38,39,40,41,42,43,44] ?_
    repeat
      refine takeY (v:=?_) hHeld (fun u hSu=>?_) ?_
      rotate_left
      · ((try dsimp only at hSu); go_simp) <;> with_reducible rfl
      try simp only [PS]
    refine endY ?_
    refine take_one (i:=45) rfl (by kernel_rfl) (fun K hK=>?_)
    go_simp
    refine ((un HSI) _ _ _ _ ((un HI2).kept ((Kept.refl xa).drew)) ((un HI1).kept ((Kept.refl xa).drew))).mono ?_
    rintro e wA ⟨rfl,hkA⟩
    have hkx:Kept xa wA:=((Kept.refl xa).drew).trans hkA
    refine hK.out _ _ ((un HY) _ hkx) (fun hHeld=>?_)
    clear hK K
    try simp only [PS]
    refine planY [46,47] ?_
    repeat
      refine takeY (v:=?_) hHeld (fun u hSu=>?_) ?_
      rotate_left
      · ((try dsimp only at hSu); go_simp) <;> with_reducible rfl
      try simp only [PS]
    refine endY ?_
    refine wpAnyH_done (by kernel_rfl) ?_ _
    replace HK:=hide ((un HK).trans hkx)
    replace HL:=hide (lays_kept hkx (un HL))
    replace HT:=hide (lays_kept hkx (un HT))
    replace HS:=hide ((un HS).kept hkx)
    replace HR:=hide ((un HR).kept hkx)
    clear hkx hkA HY HI1 HI2 HSI
    go_wp2_with fail
    go_loopw [7] (fun s7 wr=>∃ k:Nat,k≤N∧s7=.int .i64 k∧Hid (Kept wA wr)) (fun s7 _=>N - (intOf s7).toNat)
    case atStart=>exact ⟨0,Nat.zero_le _,rfl,Kept.refl _⟩
    case round =>
      obtain ⟨k,hkm,rfl,HKr⟩:=hrel
      have a0:=cell_lays (lays_kept (un HKr) (un HL)) 0
      have a1:=cell_lays (lays_kept (un HKr) (un HL)) 1
      have b1:=cell_lays (lays_kept (un HKr) (un HT)) 1
      have hwk:IntKind.i64.wrap ((k:Int) + 1)=(k:Int) + 1:=wrap_tiny _ (by omega) (by omega)
      by_cases hlt:k < N
      · have hk1:(k:Int) < (N:Int):=by omega
        have hkz:(0:Int)≤(k:Int):=by omega
        by_cases hn1:(k:Int)=nn
        · have hb:((k:Int) == nn)=true:=by rw [beq_iff_eq]; exact hn1
          clear hn1
          go_wp2
          go_roundw
          case rel=>exact ⟨k + 1,by omega,by go_num,HKr⟩
          case measure=>simp [intOf]; omega
        · have hb:((k:Int) == nn)=false:=by rw [beq_eq_false_iff_ne]; exact hn1
          by_cases hn2:(k:Int)=za
          · have hc:((k:Int) == za)=true:=by rw [beq_iff_eq]; exact hn2
            clear hn1 hn2
            go_wp2
            go_roundw
            case rel=>exact ⟨k + 1,by omega,by go_num,HKr⟩
            case measure=>simp [intOf]; omega
          · have hc:((k:Int) == za)=false:=by rw [beq_eq_false_iff_ne]; exact hn2
            have hsm:=(un HG5) k hlt hn1 hn2
            obtain ⟨bs,os,_,_,rfl,_⟩:=stAt_fib (un HS) (i:=k) (by have:=un HE; omega)
            obtain ⟨br,or,_,_,rfl,_⟩:=stAt_fib (un HR) (i:=k) (by have:=un HE; have:=un HNN; omega)
            have h1:=fun c=>stAt_sub ((un HS).kept (un HKr)) (k:=k) (by have:=un HE; omega) c
            have h2:=fun c=>stAt_sub ((un HR).kept (un HKr)) (k:=k) (by have:=un HE; have:=un HNN; omega) c
            rw [hsm] at h2
            have H1:=hide h1
            have H2:=hide h2
            have HY:Hid (∀ y,Kept wr y→y.cell? ⟨B1,0,none⟩=some (.slice (some ⟨br,or,none⟩) na ca)∧y.cell? ⟨B0,0,none⟩=some (.slice (some ⟨bs,os,none⟩) N cap)) :=
              hide (fun y hy=>⟨hy.cell (cell_lays (lays_kept (un HKr) (un HT)) 0),hy.cell a0⟩)
            have c1:k + 1≤cap:=by omega
            have c2:k + 1≤ca:=by have:=un HNN; omega
            have q1:=cut_one bs os N cap k c1
            have q2:=cut_one br or na ca k c2
            clear hn1 hn2 hsm h1 h2
            go_wp2_with fail
            refine wp_region_held_drew (S:=fun y=>y.cell? ⟨B1,0,none⟩=some (.slice (some ⟨br,or,none⟩) na ca)∧y.cell? ⟨B0,0,none⟩=some (.slice (some ⟨bs,os,none⟩) N cap)) (by kernel_rfl) ((un HY) _ (Kept.drew (Kept.refl _))) (fun hHeld=>?_)
            refine planY [0,1,2,3,4,5,6,7,8,9,10,11,12,13] ?_
            repeat
              refine takeY (v:=?_) hHeld (fun u hSu=>?_) ?_
              rotate_left
              · ((try dsimp only at hSu); go_simp) <;> with_reducible rfl
              try simp only [PS]
            refine endY ?_
            refine take_one (i:=14) rfl (by kernel_rfl) (fun K hK=>?_)
            go_simp
            refine ((un HSS) _ _ _ _ (((un H1) _).kept ((Kept.refl wr).drew)) (((un H2) _).kept ((Kept.refl wr).drew))).mono ?_
            rintro e wB ⟨rfl,hkB⟩
            refine hK.out _ _ ((un HY) _ (((Kept.refl wr).drew).trans hkB)) (fun hHeld=>?_)
            clear hK K
            try simp only [PS]
            refine planY [15] ?_
            repeat
              refine takeY (v:=?_) hHeld (fun u hSu=>?_) ?_
              rotate_left
              · ((try dsimp only at hSu); go_simp) <;> with_reducible rfl
              try simp only [PS]
            refine endY ?_
            refine wpAnyH_done (by kernel_rfl) ?_ _
            go_wp2
            go_roundw
            case rel=>exact ⟨k + 1,by omega,by go_num,hide ((un HKr).trans (((Kept.refl wr).drew).trans hkB))⟩
            case measure=>simp [intOf]; omega
      · have hk1:¬ ((k:Int) < (N:Int)):=by omega
        go_wp2_with fail
        refine ((un HRB) _ ((un HK).trans (un HKr))).mono ?_
        rintro _ w3 ⟨rfl,hk⟩
        replace HK:=hide (((un HK).trans (un HKr)).trans hk)
        clear hk
        go_wp2
        go_ret
        exact ⟨rfl,un HK⟩
  · have hz':(se != 0)=true:=by rw [bne_iff_ne]; exact hz
    go_wp2_with fail
    refine ((un HRB) _ ((un HK).alloc _)).mono ?_
    rintro _ w3 ⟨rfl,hk⟩
    replace HK:=hide (((un HK).alloc _).trans hk)
    clear hk
    go_wp2
    go_ret
    exact ⟨rfl,un HK⟩
end Go.Proofs.YtadckjclgakcaaaGreatDoor
