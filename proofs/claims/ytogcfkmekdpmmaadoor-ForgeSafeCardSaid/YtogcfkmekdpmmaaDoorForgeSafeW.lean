/-
  The statement ForgeSafe: its walk, of the contracts of what it calls.
-/
import Derived.Test.YtogcfkmekdpmmaaDoorForgeF
set_option maxRecDepth 100000
set_option maxHeartbeats 8000000
namespace Go.Proofs.YtogcfkmekdpmmaaDoor
open Go.RowKit Go.Maps

theorem forgeSafe_w (ve vv:Value) (w:World) (p:List Fn) (er:Int) (H:Nat→List Int)
    (HP:Hid (∀ u,Kept w u→Calls Tryd.prog 13 #[ve,vv] u (PgPost p er u)))
    (HB:Hid (∀ u,Kept w u→Calls Tryd.prog 16 #[] u fun e w'=>e=.returned (.bool true)∧Kept u w'))
    (HC:Hid (er=0→∀ u v,Kept w u→ProgAt u v p→Calls Tryd.prog 20 #[v] u fun e w'=>e=.returned (.int .i64 0)∧Kept u w'))
    (HH:Hid (er=0→∀ f:Nat,f < 2→∀ u v,Kept w u→ProgAt u v p→Calls Tryd.prog 21 #[v,.int .i64 f] u fun e w'=>∃ bl ol cl,e=.returned (.tuple #[.slice (some ⟨bl,ol,none⟩) (H f).length cl,.int .i64 0])∧IntsW w' (.slice (some ⟨bl,ol,none⟩) (H f).length cl) (H f)∧Kept u w'))
    (hpl:er=0→p.length=2) (hH:er=0→∀ f,f < 2→0 < (H f).length∧(H f).length≤100∧(H f).getD ((H f).length - 1) 0=1∧∀ j,0≤(H f).getD j 0) :
    Calls Tryd.prog 6 #[ve,vv] w fun e w'=>e=.returned (.bool true)∧Kept w w':=by
  by_cases he:er=0
  · subst he
    replace HC:=hide ((un HC) rfl)
    replace HH:=hide ((un HH) rfl)
    have HHH:=hide (hH rfl)
    have hp2:=hpl rfl
    clear hH hpl
    go_enter Tryd.func6,Tryd.ntmps6
    go_wp2_with fail
    refine ((un HP) _ (Kept.refl w)).mono ?_
    rintro _ w1 ⟨v1,rfl,hp,hk1⟩
    obtain ⟨oa,cap,rfl,_,_⟩:=id hp
    rw [hp2] at hp ⊢
    have HK:=hide hk1
    have HPA:=hide hp
    clear hp hk1 HP
    go_wp2_with fail
    refine ((un HC) _ _ (un HK) (un HPA)).mono ?_
    rintro _ w2 ⟨rfl,hk2⟩
    replace HK:=hide ((un HK).trans hk2)
    replace HPA:=hide ((un HPA).kept hk2)
    clear hk2 HC
    go_wp2_with fail
    go_loopw [7] (fun s7 wr=>∃ f:Nat,f≤2∧s7=.int .i64 f∧Hid (Kept w2 wr)) (fun s7 _=>2 - (intOf s7).toNat)
    case atStart=>exact ⟨0,by omega,rfl,hide (Kept.refl _)⟩
    case round =>
      obtain ⟨f,hf2,rfl,HKr⟩:=hrel
      by_cases hlt:f < 2
      · have HCL:=hide ((un HH) f hlt _ _ ((un HK).trans (un HKr)) ((un HPA).kept (un HKr)))
        obtain ⟨hh0,hh1,hh2,hh3⟩:=(un HHH) f hlt
        generalize H f=hs at hh0 hh1 hh2 hh3 HCL
        obtain ⟨M,hM⟩:∃ M,hs.length=M + 1:=⟨hs.length - 1,by omega⟩
        rw [hM] at HCL hh1 hh2
        have HH2:=hide hh2
        have HH3:=hide hh3
        have HM:=hide hM
        have hf2':(f:Int) < 2:=by omega
        clear hh0 hh2 hh3 hM
        go_wp2_with fail
        refine (un HCL).mono ?_
        rintro _ w3 ⟨bl,ol,cl,rfl,hi,hk3⟩
        replace HKr:=hide ((un HKr).trans hk3)
        have HI:=hide hi
        clear hk3 HCL hi
        obtain ⟨b9,o9,c9,ev,c1⟩:=(un HI).at (i:=M) (by rw [un HM]; omega)
        obtain ⟨rfl,rfl,rfl⟩:bl=b9∧ol=o9∧cl=c9:=by simp only [Value.slice.injEq,Option.some.injEq,Addr.mk.injEq] at ev; exact ⟨ev.1.1,ev.1.2.1,ev.2.2⟩
        rw [show hs.getD M 0=1 from un HH2] at c1
        clear ev
        have hwn:IntKind.i64.wrap (((M + 1:Nat):Int) - 1)=(M:Int):=by rw [IntKind.wrap_i64]; omega
        have hwn2:IntKind.i64.wrap ((M:Int) + 1 - 1)=(M:Int):=by rw [IntKind.wrap_i64]; omega
        have hwn3:IntKind.i64.wrap (M:Int)=(M:Int):=by rw [IntKind.wrap_i64]; omega
        have g1:(M:Int) < (M:Int) + 1:=by omega
        have g2:(0:Int)≤(M:Int):=by omega
        have g3:(((M + 1:Nat):Int) == 0)=false:=by rw [beq_eq_false_iff_ne]; omega
        have g4:((M:Int) + 1 == 0)=false:=by rw [beq_eq_false_iff_ne]; omega
        have g5:((M + 1:Nat) == 0)=false:=rfl
        have g6:¬ ((M:Int) + 1=0):=by omega
        have g7:decide ((M:Int) + 1=0)=false:=decide_eq_false g6
        go_wp2_with fail
        go_loopw [10] (fun s10 wq=>∃ k:Nat,k≤M + 1∧s10=.int .i64 k∧Hid (Kept w3 wq)) (fun s10 _=>M + 1 - (intOf s10).toNat)
        case atStart=>exact ⟨0,by omega,rfl,hide (by first | exact Kept.refl _ | exact (Kept.refl _).drew | exact (Kept.refl _).drewN _)⟩
        case round =>
          obtain ⟨k,hk2,rfl,HKq⟩:=hrel
          by_cases hlk:k < M + 1
          · obtain ⟨b9,o9,c9,ev,d1⟩:=(un HI).at (i:=k) (by rw [un HM]; omega)
            obtain ⟨rfl,rfl,rfl⟩:bl=b9∧ol=o9∧cl=c9:=by simp only [Value.slice.injEq,Option.some.injEq,Addr.mk.injEq] at ev; exact ⟨ev.1.1,ev.1.2.1,ev.2.2⟩
            have d2:=(un HKq).cell d1
            have hz:=(un HH3) k
            generalize hs.getD k 0=z at d1 d2 hz
            have hz':¬ z < 0:=by omega
            have k0:(0:Int)≤(k:Int):=by omega
            have k1:(k:Int) < (M:Int) + 1:=by omega
            have k2:(k:Int) < ((M + 1:Nat):Int):=by omega
            clear ev d1
            go_wp2_with fail
            go_roundw
            case rel=>exact ⟨k + 1,by omega,by go_num,HKq⟩
            case measure=>simp [intOf]; omega
          · have k1:¬ (k:Int) < (M:Int) + 1:=by omega
            have k2:¬ (k:Int) < ((M + 1:Nat):Int):=by omega
            go_wp2_with fail
            go_roundw
            case rel=>exact ⟨f + 1,by omega,by go_num,hide ((un HKr).trans (un HKq))⟩
            case measure=>simp [intOf]; omega
      · have hf2':¬ (f:Int) < 2:=by omega
        have HCB:=hide ((un HB) _ ((un HK).trans (un HKr)))
        go_wp2_with fail
        refine (un HCB).mono ?_
        rintro _ w4 ⟨rfl,hk4⟩
        replace HK:=hide (((un HK).trans (un HKr)).trans hk4)
        clear hk4 HCB
        go_wp2_with fail
        go_ret
        exact ⟨rfl,un HK⟩
  · have he':(er != 0)=true:=by rw [bne_iff_ne]; exact he
    go_enter Tryd.func6,Tryd.ntmps6
    go_wp2_with fail
    refine ((un HP) _ (Kept.refl w)).mono ?_
    rintro _ w1 ⟨v1,rfl,hp,hk1⟩
    obtain ⟨oa,cap,rfl,_,_⟩:=id hp
    have HK:=hide hk1
    clear hp hk1 HP
    go_wp2_with fail
    refine ((un HB) _ (un HK)).mono ?_
    rintro _ w2 ⟨rfl,hk2⟩
    replace HK:=hide ((un HK).trans hk2)
    clear hk2
    go_wp2_with fail
    go_ret
    exact ⟨rfl,un HK⟩
end Go.Proofs.YtogcfkmekdpmmaaDoor
