/- ExprA0, ExprB0, ForgeHa, ForgeH0, ForgeH7, ForgeH2, ForgeH -/
import Derived.Test.YtogcfkmekdpmmaaDoorExprG
import Derived.Deep.RegionHeld3
import Derived.Test.YtogcfkmekdpmmaaDoorForgeF
set_option maxRecDepth 100000
set_option maxHeartbeats 8000000
namespace Go.Proofs.YtogcfkmekdpmmaaDoor
open Go.RowKit

theorem size_any (k:Int) (w:World):Calls Tryd.prog 51 #[.int .i64 k] w fun e w'=>e=.returned (.int .i64 (partsS k))∧w=w':=by
  unfold partsS
  by_cases h1:k≤1
  · rw [if_pos h1]
    go_enter Tryd.func51,Tryd.ntmps51
    go_wp2
    go_ret
    exact ⟨rfl,rfl⟩
  · rw [if_neg h1]
    by_cases h7:k < 7
    · rw [if_pos h7]
      go_enter Tryd.func51,Tryd.ntmps51
      go_wp2
      go_ret
      exact ⟨rfl,rfl⟩
    · rw [if_neg h7]
      go_enter Tryd.func51,Tryd.ntmps51
      go_wp2
      go_ret
      exact ⟨rfl,rfl⟩
end Go.Proofs.YtogcfkmekdpmmaaDoor
set_option maxRecDepth 100000
set_option maxHeartbeats 8000000
namespace Go.Proofs.YtogcfkmekdpmmaaDoor
open Go.RowKit

theorem within_yes (i l n:Int) (w:World) (h1:l≤i) (h2:i≤n) :
    Calls Tryd.prog 26 #[.int .i64 i,.int .i64 l,.int .i64 n] w fun e w'=>e=.returned (.bool true)∧w=w':=by
  go_enter Tryd.func26,Tryd.ntmps26
  go_wp2
  go_ret
  exact ⟨rfl,rfl⟩
theorem within_no (i l n:Int) (w:World) (h:¬ (l≤i∧i≤n)) :
    Calls Tryd.prog 26 #[.int .i64 i,.int .i64 l,.int .i64 n] w fun e w'=>e=.returned (.bool false)∧w=w':=by
  by_cases h1:l≤i
  · have h2:¬ i≤n:=fun x=>h ⟨h1,x⟩
    clear h
    go_enter Tryd.func26,Tryd.ntmps26
    go_wp2
    go_ret
    exact ⟨rfl,rfl⟩
  · clear h
    go_enter Tryd.func26,Tryd.ntmps26
    go_wp2
    go_ret
    exact ⟨rfl,rfl⟩

theorem exprError_locals (v:Value) (n:Int) (w:World) (h:¬ (0≤n∧n≤4)) :
    Calls Tryd.prog 35 #[v,.int .i64 n] w fun x w'=>x=.returned (.int .i64 3)∧w=w':=by
  have HH:=hide h
  clear h
  go_enter Tryd.func35,Tryd.ntmps35
  go_wp2_with fail
  refine (within_no _ _ _ _ (un HH)).mono ?_
  rintro _ _ ⟨rfl,rfl⟩
  go_wp2
  go_ret
  exact ⟨rfl,rfl⟩

theorem exprError_many (oa:Option Addr) (l cap:Nat) (n:Int) (w:World) (h0:0≤n) (h4:n≤4) (hl:9 < (l:Int)) :
    Calls Tryd.prog 35 #[.slice oa l cap,.int .i64 n] w fun x w'=>x=.returned (.int .i64 2)∧w=w':=by
  go_enter Tryd.func35,Tryd.ntmps35
  go_wp2_with fail
  refine (within_yes _ _ _ _ h0 h4).mono ?_
  rintro _ _ ⟨rfl,rfl⟩
  go_wp2
  go_ret
  exact ⟨rfl,rfl⟩

theorem exprError_go (e:List (Int × Int)) (oa:Option Addr) (m cap:Nat) (n:Int) (w:World) (he:NodesAt w (.slice oa m cap) e) (hm:m=e.length) (h0:0≤n) (h4:n≤4) (hl:¬ 9 < (m:Int)) :
    Calls Tryd.prog 35 #[.slice oa m cap,.int .i64 n] w fun x w'=>x=.returned (.int .i64 (exErrS e n))∧w=w':=by
  have HI:Hid (∀ i x,e[i]?=some x→∃ b o,oa=some ⟨b,o,none⟩∧w.cell? ⟨b,o + i * 2,none⟩=some (.int .i64 x.1)∧w.cell? ⟨b,o + i * 2 + 1,none⟩=some (.int .i64 x.2)):=by
    obtain ⟨oa',cap',e1,_,hi⟩:=he
    obtain ⟨rfl,_,_⟩:oa=oa'∧m=e.length∧cap=cap':=by simpa using e1
    exact hide hi
  have HM:=hide hm
  have HL:Hid (¬ 9 < e.length):=by rw [← hm]; exact hide (by omega)
  clear he hm
  generalize hr:exErrS e n=rr
  have HR:=hide hr
  clear hr
  go_enter Tryd.func35,Tryd.ntmps35
  go_wp2_with fail
  refine (within_yes _ _ _ _ h0 h4).mono ?_
  rintro _ _ ⟨rfl,rfl⟩
  go_wp2
  go_loopw [5] (fun s wr=>∃ k:Nat,k≤m∧s=.int .i64 k∧Hid (∀ i x,i < k→e[i]?=some x→kindOk x)∧w=wr) (fun s _=>m - (intOf s).toNat)
  case atStart=>exact ⟨0,Nat.zero_le _,rfl,hide (fun i x hi=>by omega),rfl⟩
  case round =>
    obtain ⟨k,hkm,rfl,HO,rfl⟩:=hrel
    by_cases hlt:k < m
    · obtain ⟨b,o,rfl,c0,c1⟩:=(un HI) k _ (getD_of_lt e k (0,0) (by rw [← un HM]; exact hlt))
      have HX:=hide (getD_of_lt e k (0,0) (by rw [← un HM]; exact hlt))
      generalize e.getD k (0,0)=x at c0 c1 HX
      obtain ⟨kd,z⟩:=x
      simp only [] at c0 c1
      have hk0:(0:Int)≤(k:Int):=by omega
      have hk1:(k:Int) < (m:Int):=by omega
      by_cases hok:0≤kd∧kd≤7
      · have HN:Hid (∀ i x,i < k + 1→e[i]?=some x→kindOk x):=hide (fun i x hi hx=>by
          by_cases hik:i=k
          · subst hik; rw [un HX] at hx; obtain rfl:=Option.some.inj hx; exact hok
          · exact (un HO) i x (by omega) hx)
        obtain ⟨g0,g7⟩:=hok
        go_wp2_with fail
        refine (within_yes _ _ _ _ g0 g7).mono ?_
        rintro _ _ ⟨rfl,rfl⟩
        go_wp2
        go_roundw
        case rel=>exact ⟨k + 1,by omega,by go_num,HN,trivial⟩
        case measure=>simp [intOf]; omega
      · have hrr:rr=4:=by rw [← un HR]; exact exErr_kind h0 h4 (un HL) k _ (un HX) hok
        have HOK:=hide hok
        clear hok
        subst hrr
        go_wp2_with fail
        refine (within_no _ _ _ _ (un HOK)).mono ?_
        rintro _ _ ⟨rfl,rfl⟩
        go_wp2
        go_ret
        exact ⟨rfl,rfl⟩
    · have hke:k=e.length:=by have:=un HM; omega
      have HKS:Hid (∀ x∈e,kindOk x):=hide (all_of (fun i x hi hx=>(un HO) i x (by omega) hx))
      clear HO hke
      go_wp2
      go_loopw [6] (fun s wr=>∃ k:Nat,k≤m∧s=.int .i64 k∧Hid (∀ i x,i < k→e[i]?=some x→numOk n x)∧w=wr) (fun s _=>m - (intOf s).toNat)
      case atStart=>exact ⟨0,Nat.zero_le _,rfl,hide (fun i x hi=>by omega),rfl⟩
      case round =>
        obtain ⟨k,hkm,rfl,HO,rfl⟩:=hrel
        by_cases hlt:k < m
        · obtain ⟨b,o,rfl,c0,c1⟩:=(un HI) k _ (getD_of_lt e k (0,0) (by rw [← un HM]; exact hlt))
          have HX:=hide (getD_of_lt e k (0,0) (by rw [← un HM]; exact hlt))
          generalize e.getD k (0,0)=x at c0 c1 HX
          obtain ⟨kd,z⟩:=x
          simp only [] at c0 c1
          have hk0:(0:Int)≤(k:Int):=by omega
          have hk1:(k:Int) < (m:Int):=by omega
          have HNX:Hid (numOk n (kd,z)→∀ i x,i < k + 1→e[i]?=some x→numOk n x):=hide (fun hok i x hi hx=>by
            by_cases hik:i=k
            · subst hik; rw [un HX] at hx; obtain rfl:=Option.some.inj hx; exact hok
            · exact (un HO) i x (by omega) hx)
          have HBX:Hid (¬ numOk n (kd,z)→rr=3):=hide (fun hok=>by rw [← un HR]; exact exErr_num h0 h4 (un HL) (un HKS) k _ (un HX) hok)
          clear HO HX
          have hcase:∃ mo,mostS n kd=mo:=⟨_,rfl⟩
          obtain ⟨mo,hmo⟩:=hcase
          by_cases hok:0≤z∧z≤mo
          · have HN:Hid (∀ i x,i < k + 1→e[i]?=some x→numOk n x):=hide ((un HNX) ⟨hok.1,by rw [hmo]; exact hok.2⟩)
            clear HNX HBX
            obtain ⟨g0,g7⟩:=hok
            by_cases z0:kd=0
            · subst z0
              obtain rfl:999=mo:=by rw [← hmo]; rfl
              clear hmo
              go_wp2_with fail
              refine (within_yes _ _ _ _ g0 g7).mono ?_
              rintro _ _ ⟨rfl,rfl⟩
              go_wp2
              go_roundw
              case rel=>exact ⟨k + 1,by omega,by go_num,HN,trivial⟩
              case measure=>simp [intOf]; omega
            · by_cases z1:kd=1
              · subst z1
                obtain rfl:n - 1=mo:=by rw [← hmo]; rfl
                clear hmo
                go_wp2_with fail
                refine (within_yes _ _ _ _ g0 g7).mono ?_
                rintro _ _ ⟨rfl,rfl⟩
                go_wp2
                go_roundw
                case rel=>exact ⟨k + 1,by omega,by go_num,HN,trivial⟩
                case measure=>simp [intOf]; omega
              · obtain rfl:0=mo:=by rw [← hmo]; unfold mostS; rw [if_neg z0,if_neg z1]
                have b0:(kd == 0)=false:=beq_eq_false_iff_ne.2 z0
                have b1:(kd == 1)=false:=beq_eq_false_iff_ne.2 z1
                clear hmo z0 z1
                go_wp2_with fail
                refine (within_yes _ _ _ _ g0 g7).mono ?_
                rintro _ _ ⟨rfl,rfl⟩
                go_wp2
                go_roundw
                case rel=>exact ⟨k + 1,by omega,by go_num,HN,trivial⟩
                case measure=>simp [intOf]; omega
          · obtain rfl:3=rr:=((un HBX) (fun h=>hok ⟨h.1,by rw [← hmo]; exact h.2⟩)).symm
            clear HNX HBX
            have HOK:=hide hok
            clear hok
            by_cases z0:kd=0
            · subst z0
              obtain rfl:999=mo:=by rw [← hmo]; rfl
              clear hmo
              go_wp2_with fail
              refine (within_no _ _ _ _ (un HOK)).mono ?_
              rintro _ _ ⟨rfl,rfl⟩
              go_wp2
              go_ret
              exact ⟨rfl,rfl⟩
            · by_cases z1:kd=1
              · subst z1
                obtain rfl:n - 1=mo:=by rw [← hmo]; rfl
                clear hmo
                go_wp2_with fail
                refine (within_no _ _ _ _ (un HOK)).mono ?_
                rintro _ _ ⟨rfl,rfl⟩
                go_wp2
                go_ret
                exact ⟨rfl,rfl⟩
              · obtain rfl:0=mo:=by rw [← hmo]; unfold mostS; rw [if_neg z0,if_neg z1]
                have b0:(kd == 0)=false:=beq_eq_false_iff_ne.2 z0
                have b1:(kd == 1)=false:=beq_eq_false_iff_ne.2 z1
                clear hmo z0 z1
                go_wp2_with fail
                refine (within_no _ _ _ _ (un HOK)).mono ?_
                rintro _ _ ⟨rfl,rfl⟩
                go_wp2
                go_ret
                exact ⟨rfl,rfl⟩
        · have hke:k=e.length:=by have:=un HM; omega
          have HNS:Hid (∀ x∈e,numOk n x):=hide (all_of (fun i x hi hx=>(un HO) i x (by omega) hx))
          have HRR:Hid (rr=if onlyS e 1=true then 0 else 1):=hide (by rw [← un HR]; exact exErr_one h0 h4 (un HL) (un HKS) (un HNS))
          clear HO hke HNS HR
          go_wp2
          go_loopw [8,9] (fun s8 s9 wr=>∃ (k:Nat) (o:Int),k≤m∧s9=.int .i64 k∧s8=.int .i64 o∧0≤o∧o≤1 + 2 * k∧Hid (onlyS (e.drop k) o=onlyS e 1)∧w=wr) (fun _ s _=>m - (intOf s).toNat)
          case atStart=>exact ⟨0,1,Nat.zero_le _,rfl,rfl,by omega,by omega,hide rfl,rfl⟩
          case round =>
            obtain ⟨k,op,hkm,rfl,rfl,ho0,ho1,HO,rfl⟩:=hrel
            by_cases hlt:k < m
            · obtain ⟨b,o,rfl,c0,c1⟩:=(un HI) k _ (getD_of_lt e k (0,0) (by rw [← un HM]; exact hlt))
              have hx:=getD_of_lt e k (0,0) (by rw [← un HM]; exact hlt)
              have hkx:=(un HKS) _ (List.mem_of_getElem? hx)
              have hst:=onlyS_step hx op
              have HST:=hide hst
              generalize e.getD k (0,0)=x at c0 c1 hkx HST
              obtain ⟨kd,z⟩:=x
              simp only [] at c0 c1
              unfold kindOk at hkx
              simp only [] at hkx
              have hk0:(0:Int)≤(k:Int):=by omega
              have hk1:(k:Int) < (m:Int):=by omega
              clear hx hst c1
              by_cases hop:op=0
              · obtain rfl:1=rr:=by
                  rw [un HRR,← un HO,un HST,if_pos hop]; rfl
                subst hop
                go_wp2
                go_ret
                exact ⟨rfl,rfl⟩
              · have HN:Hid (onlyS (e.drop (k + 1)) (op - 1 + partsS kd)=onlyS e 1):=hide (by rw [← un HO,un HST,if_neg hop])
                have hp0:0≤partsS kd∧partsS kd≤3:=by unfold partsS; split <;> (try split) <;> omega
                have bop:(op == 0)=false:=beq_eq_false_iff_ne.2 hop
                obtain ⟨hpa,hpb⟩:=hp0
                clear HO HST
                go_wp2_with fail
                refine (size_any _ _).mono ?_
                rintro _ _ ⟨rfl,rfl⟩
                generalize partsS kd=pk at HN hpa hpb ⊢
                go_wp2
                go_roundw
                case rel=>exact ⟨k + 1,op - 1 + pk,by omega,by go_num,by go_num,by omega,by omega,HN,trivial⟩
                case measure=>simp [intOf]; omega
            · have hke:k=e.length:=by have:=un HM; omega
              have hfin:onlyS e 1=decide (op=0):=by rw [← un HO,hke]; simp [onlyS]
              by_cases hop:op=0
              · obtain rfl:0=rr:=by rw [un HRR,hfin]; simp [hop]
                subst hop
                clear hfin hke
                go_wp2
                go_ret
                exact ⟨rfl,rfl⟩
              · obtain rfl:1=rr:=by rw [un HRR,hfin]; simp [hop]
                have bop:(op != 0)=true:=bne_iff_ne.2 hop
                clear hfin hke hop
                go_wp2
                go_ret
                exact ⟨rfl,rfl⟩

theorem exprError_any (e:List (Int × Int)) (v:Value) (n:Int) (w:World) (he:NodesAt w v e) :
    Calls Tryd.prog 35 #[v,.int .i64 n] w fun x w'=>x=.returned (.int .i64 (exErrS e n))∧w=w':=by
  by_cases hn:0≤n∧n≤4
  · obtain ⟨oa,cap,rfl,hl,hi⟩:=id he
    by_cases h9:9 < e.length
    · rw [exErr_many hn.1 hn.2 h9]
      exact exprError_many oa _ cap n w hn.1 hn.2 (by omega)
    · exact exprError_go e oa _ cap n w he rfl hn.1 hn.2 (by omega)
  · rw [exErr_locals (by omega)]
    exact exprError_locals v n w hn
end Go.Proofs.YtogcfkmekdpmmaaDoor
set_option maxRecDepth 100000
set_option maxHeartbeats 8000000
namespace Go.Proofs.YtogcfkmekdpmmaaDoor
open Go.RowKit Go.Maps

theorem fFlat_len (c:List (Int × Int)):(flatOps c).length=c.length * 2:=by
  induction c with
  | nil=>rfl
  | cons x r ih=>simp only [flatOps,List.flatMap_cons,List.length_append,List.length_cons,List.length_nil] at ih ⊢; omega
theorem fFlat_app (c d:List (Int × Int)):flatOps (c++d)=flatOps c++flatOps d:=by simp [flatOps]
theorem fFlat_one (c:List (Int × Int)):∀ u∈flatOps c,u.oneCell'=true:=by
  intro u hu
  simp only [flatOps,List.mem_flatMap] at hu
  obtain ⟨x,_,hx⟩:=hu
  exact fTwo_int _ _ u hx
theorem fRow_kept {w w':World} {base:Nat} {e:TypeId} {size:Nat} {v:Value} {n:Nat} {xs:List Value} (h:w.ownsRow base e size v n xs) (k:Kept w w'):w'.ownsRow base e size v n xs:=by
  obtain ⟨h1,h2 | ⟨g,cap,cur,hv,hb,hh,r⟩⟩:=h
  · exact ⟨h1,.inl h2⟩
  · exact ⟨h1,.inr ⟨g,cap,cur,hv,hb,lays_kept k hh,r⟩⟩
theorem fRow_low {w:World} {base base':Nat} {e:TypeId} {size:Nat} {v:Value} {n:Nat} {xs:List Value} (h:w.ownsRow base' e size v n xs) (hb:base≤base'):w.ownsRow base e size v n xs:=by
  obtain ⟨h1,h2 | ⟨g,cap,cur,hv,hb',r⟩⟩:=h
  · exact ⟨h1,.inl h2⟩
  · exact ⟨h1,.inr ⟨g,cap,cur,hv,Nat.le_trans hb hb',r⟩⟩
theorem add_zero (g j:Nat):(⟨g,0,none⟩:Addr).add j=⟨g,j,none⟩:=by
  unfold Addr.add
  by_cases h:j=0
  · subst h; simp
  · simp [h]
def OpsOwn (base:Nat) (w:World) (v:Value) (c:List (Int × Int)):Prop:=w.ownsRow base 61 2 v c.length (flatOps c)
theorem OpsOwn.kept {base:Nat} {w w':World} {v:Value} {c:List (Int × Int)} (h:OpsOwn base w v c) (k:Kept w w'):OpsOwn base w' v c:=fRow_kept h k
theorem OpsOwn.low {base base':Nat} {w:World} {v:Value} {c:List (Int × Int)} (h:OpsOwn base' w v c) (k:base≤base'):OpsOwn base w v c:=fRow_low h k
theorem OpsOwn.reads {base:Nat} {w:World} {v:Value} {c:List (Int × Int)} (h:OpsOwn base w v c) (hc:0 < c.length) :
    ∃ g cap,v=.slice (some ⟨g,0,none⟩) c.length cap∧base≤g∧g < w.heap.size∧∀ j u,(flatOps c)[j]?=some u→w.cell? ((⟨g,0,none⟩:Addr).add j)=some u:=by
  obtain ⟨hl,h0 | ⟨g,cap,cur,hv,hb,hh,h1,h2,hs,ht⟩⟩:=h
  · omega
  · refine ⟨g,cap,hv,hb,(Array.getElem?_eq_some_iff.1 hh).1,fun j u hj=>?_⟩
    have hj':=(List.getElem?_eq_some_iff.1 hj).1
    rw [← ht,List.getElem?_take] at hj
    split at hj
    · rw [add_zero,cell_lays hh]
      simpa using hj
    · cases hj
theorem OpsOwn.code {base:Nat} {w:World} {v:Value} {c:List (Int × Int)} (h:OpsOwn base w v c) (hl:c.length≤100):FCode base w v c:=by
  by_cases hc:0 < c.length
  · obtain ⟨g,cap,rfl,hb,_,hr⟩:=h.reads hc
    refine ⟨_,cap,rfl,by omega,fun i x hx=>?_⟩
    obtain ⟨f1,f2⟩:=flatOps_at c i x hx
    have e1:=hr _ _ f1
    have e2:=hr _ _ f2
    rw [add_zero] at e1 e2
    exact ⟨g,0,rfl,hb,by simpa using e1,by simpa using e2⟩
  · have:c=[]:=List.length_eq_zero_iff.1 (by omega)
    subst this
    obtain ⟨hl,⟨rfl,_⟩ | ⟨g,cap,cur,hv,hb,hh,_⟩⟩:=h
    · exact FCode.nil _ _
    · exact ⟨_,_,hv,by simp,fun i x hx=>by simp at hx⟩
theorem OpsOwn.empty {w:World} {base E:Nat} (h:w.heap[E]?=some (.cells #[] 61)) (hb:base≤E):OpsOwn base w (.slice (some ⟨E,0,none⟩) 0 0) [] :=
  ⟨rfl,.inr ⟨E,0,#[],rfl,hb,h,Nat.le_refl _,by unfold maxLen; omega,rfl,rfl⟩⟩
theorem OpsOwn.start (w:World) (base:Nat):OpsOwn base w (.slice none 0 0) []:=⟨rfl,.inl ⟨rfl,rfl⟩⟩
theorem OpsOwn.one {w:World} {base E:Nat} {a b:Int} (h:w.heap[E]?=some (.cells #[.int .i64 a,.int .i64 b] 61)) (hb:base≤E):OpsOwn base w (.slice (some ⟨E,0,none⟩) 1 1) [(a,b)] :=
  ⟨rfl,.inr ⟨E,1,#[.int .i64 a,.int .i64 b],rfl,hb,h,Nat.le_refl _,by unfold maxLen; omega,rfl,rfl⟩⟩
theorem app_ops {w0 y:World} {v:Value} {c:List (Int × Int)} (hk:Kept w0 y) (h:OpsOwn w0.heap.size y v c) (ad:Addr) (m cp:Nat) (d:List (Int × Int)) (hm:m=d.length) (hn:∀ j u,(flatOps d)[j]?=some u→y.cell? (ad.add j)=some u) (hl:c.length + d.length≤200) :
    ∃ o' c' y',(Builtin.append_ #[31,31] 31 #[v,.slice (some ad) m cp]).run Tryd.prog y=.ok (.slice o' (c++d).length c') y'∧OpsOwn w0.heap.size y' (.slice o' (c++d).length c') (c++d)∧Kept w0 y'∧(∀ D o,y.heap[D]?=some o→v.ownBlock≠some D→y'.heap[D]?=some o∧(Value.slice o' (c++d).length c').ownBlock≠some D):=by
  subst hm
  obtain ⟨i0,hi0,hz0,hz1,hz2⟩:=fInfoOp
  obtain ⟨v',y',hr,h2,h3,h4,h5⟩:=run_append_own_at (P:=Tryd.prog) y w0.heap.size 31 31 61 i0 _ 2 16 Tryd.underlying31 hi0 hz0 hz1 hz2 rfl (by decide) v c.length (flatOps c) h ad d.length cp (flatOps d) (fFlat_len d) hn (fFlat_one d) (by unfold maxLen; omega) (by omega) hk.size
  obtain ⟨⟨o',c',rfl⟩,_⟩:=fRow_slice h2
  rw [← fFlat_app,← List.length_append] at h2
  rw [← List.length_append] at hr h5
  refine ⟨o',c',y',hr,?_,Below.grown hk h3 hk.size (fRow_slice h).2,fun D o hD hne=>⟨(h3.block D (Array.getElem?_eq_some_iff.1 hD).1 (fun e=>hne e.symm)).trans hD,fun e=>?_⟩⟩
  · exact h2
  · rcases h5 with e5 | e5
    · exact hne (e5 ▸ e)
    · have hlt:=(Array.getElem?_eq_some_iff.1 hD).1
      have:=Option.some.inj (e.symm.trans e5)
      omega
end Go.Proofs.YtogcfkmekdpmmaaDoor
set_option maxRecDepth 100000
set_option maxHeartbeats 8000000
namespace Go.Proofs.YtogcfkmekdpmmaaDoor
open Go.RowKit Go.Maps

theorem lay_pos:∀ (n:Nat) (x:Int × Int) (r:List (Int × Int)) (h:Nat),0 < (layS (n + 1) (x :: r) h).1.length:=by
  intro n x r h
  unfold layS
  split
  · simp
  split
  · simp
  split <;> (simp only [List.length_append,List.length_cons]; omega)
theorem lay_next (n:Nat) (e:List (Int × Int)) (o:Int) (h:Nat) (hl:e.length≤n) (ho:1≤o) (h1:onlyS e o=true) (hk:∀ x∈e,kindOk x) :
    (layS n e h).2.length≤n∧onlyS (layS n e h).2 (o - 1)=true∧(∀ x∈(layS n e h).2,kindOk x)∧0 < (layS n e h).1.length∧(layS n e h).1.length + 2 * (layS n e h).2.length≤2 * e.length:=by
  obtain ⟨j,p,q,e1,o1⟩:=val_rest [] n e o hl ho h1 hk
  have e2:=(lay_hg n e h 0 []).2.2
  have e3:=lay_len n e o h hl ho h1 hk
  have e4:(valS [] n e).2.length=e.length - j:=by rw [e1]; simp
  rw [e2]
  refine ⟨by omega,o1,by rw [e1]; exact fun y hy=>hk y (List.mem_of_mem_drop hy),?_,by omega⟩
  cases e with
  | nil=>simp [onlyS] at h1; omega
  | cons x r =>
    cases n with
    | zero=>simp at hl
    | succ n=>exact lay_pos n x r h
def LaidPost (n:Nat) (e:List (Int × Int)) (h:Nat) (w:World) (x:Ending) (w':World):Prop :=
  ∃ cv v',x=.returned (.tuple #[cv,v'])∧OpsOwn w.heap.size w' cv (layS n e h).1∧NodesAt w' v' (layS n e h).2∧Kept w w'
theorem laid_leaf (n:Nat) (k z:Int) (r:List (Int × Int)) (o:Int) (h:Nat) (v:Value) (w:World) (hl:((k,z) :: r).length≤n + 1) (ho:1≤o) (h1:onlyS ((k,z) :: r) o=true) (hk:∀ x∈(k,z) :: r,kindOk x) (hb:h + 2 * ((k,z) :: r).length≤60) (hv:NodesAt w v ((k,z) :: r)) (hk1:k≤1) :
    Calls Tryd.prog 52 #[v,.int .i64 h] w (LaidPost (n + 1) ((k,z) :: r) h w):=by
  have hx:=hk (k,z) (by simp)
  obtain ⟨b,o1,cap,rfl,hcap,hrl,c0,c1,hrest⟩:=hv.first
  unfold kindOk at hx
  have hl9:r.length≤n:=by simpa using hl
  have hb9:h + 2 * r.length + 2≤60:=by simp at hb; omega
  have HY:Hid (∀ u,Kept w u→u.cell? ⟨b,o1,none⟩=some (.int .i64 k)∧u.cell? ⟨b,o1 + 1,none⟩=some (.int .i64 z)):=hide (fun u hu=>⟨hu.cell c0,hu.cell c1⟩)
  have HR:=hide hrest
  have HH:=hide (show onlyS r (o - 1 + partsS k)=true by simp only [onlyS] at h1; rwa [if_neg (by omega)] at h1)
  have HK:=hide (show ∀ y∈r,kindOk y from fun y hy=>hk y (by simp [hy]))
  clear hrest h1 hk hv c0 c1 hl hb
  obtain ⟨oa,hoa,hsl⟩:=cut_first b o1 r.length cap hcap
  have HOA:=hide hoa
  clear hoa
  have h1i:(1:Int)≤((r.length + 1:Nat):Int):=by omega
  have h2i:(0:Int) < ((r.length + 1:Nat):Int):=by omega
  go_enter Tryd.func52,Tryd.ntmps52
  go_wp2_with fail
  go_region_held3 (fun u=>u.cell? ⟨b,o1,none⟩=some (.int .i64 k)∧u.cell? ⟨b,o1 + 1,none⟩=some (.int .i64 z)) (exact (un HY) _ (by repeat (first | exact Kept.refl _ | refine Kept.drew ?_ | refine Kept.alloc ?_ _ | refine Kept.setCell ?_ (by simp) _))) (fail)
  rename_i hheld
  clear hheld
  have HK1:Hid (Kept w (w.alloc (.cells #[.int .i64 k,.int .i64 z] 88)).drew):=hide ((Kept.refl w).alloc _).drew
  have HNR:Hid (NodesAt (w.alloc (.cells #[.int .i64 k,.int .i64 z] 88)).drew (.slice oa r.length (cap - 1)) r):=hide (((un HR) (cap - 1) oa (by omega) (fun hne=>(un HOA) (by simpa using hne))).kept (un HK1))
  have d0:(w.alloc (.cells #[.int .i64 k,.int .i64 z] 88)).drew.cell? ⟨w.heap.size,0,none⟩=some (.int .i64 k):=cell_lays (lays_drew (lays_new rfl)) 0
  have d1:(w.alloc (.cells #[.int .i64 k,.int .i64 z] 88)).drew.cell? ⟨w.heap.size,1,none⟩=some (.int .i64 z):=cell_lays (lays_drew (lays_new rfl)) 1
  have HSZ:Hid (w.heap.size≤w.heap.size):=hide (Nat.le_refl _)
  generalize (w.alloc (.cells #[.int .i64 k,.int .i64 z] 88)).drew=w1 at HK1 HNR d0 d1 ⊢
  clear HY HR hsl HSZ
  generalize w.heap.size=B at d0 d1 ⊢
  by_cases h0:k=0
  · have hv:layS (n + 1) ((k,z) :: r) h=([(0,z)],r):=by unfold layS; rw [if_pos h0]
    have HVS:=hide hv
    clear hv
    subst h0
    go_wp2
    go_ret2
    refine ⟨_,.slice oa r.length (cap - 1),rfl,?_,?_,(un HK1).alloc _⟩
    · rw [un HVS]; exact OpsOwn.one (lays_new rfl) (un HK1).size
    · rw [un HVS]; exact (un HNR).kept ((Kept.refl w1).alloc _)
  · by_cases h1:k=1
    · have hv:layS (n + 1) ((k,z) :: r) h=([(2,z)],r):=by unfold layS; rw [if_neg h0,if_pos h1]
      have HVS:=hide hv
      clear hv h0
      subst h1
      go_wp2
      go_ret2
      refine ⟨_,.slice oa r.length (cap - 1),rfl,?_,?_,(un HK1).alloc _⟩
      · rw [un HVS]; exact OpsOwn.one (lays_new rfl) (un HK1).size
      · rw [un HVS]; exact (un HNR).kept ((Kept.refl w1).alloc _)
    · omega
end Go.Proofs.YtogcfkmekdpmmaaDoor
set_option maxRecDepth 100000
set_option maxHeartbeats 8000000
namespace Go.Proofs.YtogcfkmekdpmmaaDoor
open Go.RowKit Go.Maps

theorem laid_if (n:Nat) (IH:Hid (∀ (e:List (Int × Int)) (o:Int) (h:Nat) (v:Value) (w:World),e.length≤n→1≤o→onlyS e o=true→(∀ x∈e,kindOk x)→h + 2 * e.length≤60→NodesAt w v e→Calls Tryd.prog 52 #[v,.int .i64 h] w (LaidPost n e h w))) (k z:Int) (r:List (Int × Int)) (o:Int) (h:Nat) (v:Value) (w:World) (hl:((k,z) :: r).length≤n + 1) (ho:1≤o) (h1:onlyS ((k,z) :: r) o=true) (hk:∀ x∈(k,z) :: r,kindOk x) (hb:h + 2 * ((k,z) :: r).length≤60) (hv:NodesAt w v ((k,z) :: r)) (h7:k=7) :
    Calls Tryd.prog 52 #[v,.int .i64 h] w (LaidPost (n + 1) ((k,z) :: r) h w):=by
  subst h7
  have hx:=hk (7,z) (by simp)
  obtain ⟨b,o1,cap,rfl,hcap,hrl,c0,c1,hrest⟩:=hv.first
  unfold kindOk at hx
  have hl9:r.length≤n:=by simpa using hl
  have hb9:h + 2 * r.length + 2≤60:=by simp at hb; omega
  have HY:Hid (∀ u,Kept w u→u.cell? ⟨b,o1,none⟩=some (.int .i64 7)∧u.cell? ⟨b,o1 + 1,none⟩=some (.int .i64 z)):=hide (fun u hu=>⟨hu.cell c0,hu.cell c1⟩)
  have HR:=hide hrest
  have HH:=hide (show onlyS r (o - 1 + partsS 7)=true by simp only [onlyS] at h1; rwa [if_neg (by omega)] at h1)
  have HK:=hide (show ∀ y∈r,kindOk y from fun y hy=>hk y (by simp [hy]))
  clear hrest h1 hk hv c0 c1 hl hb
  obtain ⟨oa,hoa,hsl⟩:=cut_first b o1 r.length cap hcap
  have HOA:=hide hoa
  clear hoa
  have h1i:(1:Int)≤((r.length + 1:Nat):Int):=by omega
  have h2i:(0:Int) < ((r.length + 1:Nat):Int):=by omega
  go_enter Tryd.func52,Tryd.ntmps52
  go_wp2_with fail
  go_region_held3 (fun u=>u.cell? ⟨b,o1,none⟩=some (.int .i64 7)∧u.cell? ⟨b,o1 + 1,none⟩=some (.int .i64 z)) (exact (un HY) _ (by repeat (first | exact Kept.refl _ | refine Kept.drew ?_ | refine Kept.alloc ?_ _ | refine Kept.setCell ?_ (by simp) _))) (fail)
  rename_i hheld
  clear hheld
  have HK1:Hid (Kept w (w.alloc (.cells #[.int .i64 7,.int .i64 z] 88)).drew):=hide ((Kept.refl w).alloc _).drew
  have HNR:Hid (NodesAt (w.alloc (.cells #[.int .i64 7,.int .i64 z] 88)).drew (.slice oa r.length (cap - 1)) r):=hide (((un HR) (cap - 1) oa (by omega) (fun hne=>(un HOA) (by simpa using hne))).kept (un HK1))
  have d0:(w.alloc (.cells #[.int .i64 7,.int .i64 z] 88)).drew.cell? ⟨w.heap.size,0,none⟩=some (.int .i64 7):=cell_lays (lays_drew (lays_new rfl)) 0
  have d1:(w.alloc (.cells #[.int .i64 7,.int .i64 z] 88)).drew.cell? ⟨w.heap.size,1,none⟩=some (.int .i64 z):=cell_lays (lays_drew (lays_new rfl)) 1
  have HSZ:Hid (w.heap.size≤w.heap.size):=hide (Nat.le_refl _)
  generalize (w.alloc (.cells #[.int .i64 7,.int .i64 z] 88)).drew=w1 at HK1 HNR d0 d1 ⊢
  clear HY HR hsl HSZ
  generalize w.heap.size=B at d0 d1 ⊢
  have h0:(7:Int)≠0:=by omega
  have h1:(7:Int)≠1:=by omega
  have hp:2≤partsS 7:=by decide
  have X1:=hide (lay_next n r (o - 1 + partsS 7) h hl9 (by omega) (un HH) (un HK))
  go_wp2_with fail
  refine ((un IH) r (o - 1 + partsS 7) h _ w1 hl9 (by omega) (un HH) (un HK) (by omega) (un HNR)).mono ?_
  rintro _ w2 ⟨cv2,v2,rfl,hc2,hn2,hk2⟩
  obtain ⟨g2,cp2,rfl,_,_,hr2⟩:=hc2.reads (un X1).2.2.2.1
  have d2:=hk2.cell d0
  have HK2:=hide ((un HK1).trans hk2)
  have HN2:=hide hn2
  have HR2:=hide hr2
  clear hn2 hk2 hc2 d0 d1 HK1 HNR hr2
  have hv:layS (n + 1) ((7,z) :: r) h=((layS n r h).1++((10,((h + (layS n r h).1.length + 1 + (layS n (layS n r h).2 (h + (layS n r h).1.length + 1)).1.length + 1:Nat):Int)) :: ((layS n (layS n r h).2 (h + (layS n r h).1.length + 1)).1++((9,((h + (layS n r h).1.length + 1 + (layS n (layS n r h).2 (h + (layS n r h).1.length + 1)).1.length + 1 + (layS n (layS n (layS n r h).2 (h + (layS n r h).1.length + 1)).2 (h + (layS n r h).1.length + 1 + (layS n (layS n r h).2 (h + (layS n r h).1.length + 1)).1.length + 1)).1.length:Nat):Int)) :: (layS n (layS n (layS n r h).2 (h + (layS n r h).1.length + 1)).2 (h + (layS n r h).1.length + 1 + (layS n (layS n r h).2 (h + (layS n r h).1.length + 1)).1.length + 1)).1))),(layS n (layS n (layS n r h).2 (h + (layS n r h).1.length + 1)).2 (h + (layS n r h).1.length + 1 + (layS n (layS n r h).2 (h + (layS n r h).1.length + 1)).1.length + 1)).2):=by
    conv=>lhs; unfold layS
    rw [if_neg h0,if_neg h1,if_pos rfl]
  have hp3:partsS 7=3:=rfl
  rw [hp3] at X1
  clear hp HH h0 h1 hp3 hx
  have HVS:=hide hv
  clear hv
  generalize layS n r h=PA at X1 HN2 HR2 HVS ⊢
  obtain ⟨A,r1⟩:=PA
  simp only at X1 HN2 HR2 HVS ⊢
  obtain ⟨x1,x2,x3,x4,x5⟩:=un X1
  have X2:=hide (lay_next n r1 (o - 1 + 3 - 1) (h + A.length + 1) x1 (by omega) x2 x3)
  have HCB:=hide ((un IH) r1 (o - 1 + 3 - 1) (h + A.length + 1) v2 w2 x1 (by omega) x2 x3 (by omega) (un HN2))
  clear x1 x2 x3 X1
  generalize hAL:A.length=la at *
  have HAL:=hide hAL
  rw [show ((h + la + 1:Nat):Int)=(h:Int) + la + 1 by omega] at HCB
  clear hAL
  go_wp2_with fail
  refine (un HCB).mono ?_
  rintro _ w3 ⟨cv3,v3,rfl,hc3,hn3,hk3⟩
  obtain ⟨g3,cp3,rfl,_,_,hr3⟩:=hc3.reads (un X2).2.2.2.1
  replace HK2:=hide ((un HK2).trans hk3)
  replace HR2:Hid (∀ j u,(flatOps A)[j]?=some u→w3.cell? ((⟨g2,0,none⟩:Addr).add j)=some u):=hide (fun j u hj=>hk3.cell ((un HR2) j u hj))
  have HN3:=hide hn3
  have HR3:=hide hr3
  clear hn3 hk3 hc3 hr3 HN2 HCB d2
  generalize layS n r1 (h + la + 1)=PB at X2 HN3 HR3 HVS ⊢
  obtain ⟨Bl,r2⟩:=PB
  simp only at X2 HN3 HR3 HVS ⊢
  obtain ⟨x1,x2,x3,x4',x5'⟩:=un X2
  have X3:=hide (lay_next n r2 (o - 1 + 3 - 1 - 1) (h + la + 1 + Bl.length + 1) x1 (by omega) x2 x3)
  have HCC:=hide ((un IH) r2 (o - 1 + 3 - 1 - 1) (h + la + 1 + Bl.length + 1) v3 w3 x1 (by omega) x2 x3 (by omega) (un HN3))
  clear x1 x2 x3 X2
  generalize hBL:Bl.length=lb at *
  have HBL:=hide hBL
  rw [show ((h + la + 1 + lb + 1:Nat):Int)=(h:Int) + la + 1 + lb + 1 by omega] at HCC
  clear hBL
  go_wp2_with fail
  refine (un HCC).mono ?_
  rintro _ w4 ⟨cv4,v4,rfl,hc4,hn4,hk4⟩
  obtain ⟨g4,cp4,rfl,_,_,hr4⟩:=hc4.reads (un X3).2.2.2.1
  replace HK2:=hide ((un HK2).trans hk4)
  replace HR2:Hid (∀ j u,(flatOps A)[j]?=some u→w4.cell? ((⟨g2,0,none⟩:Addr).add j)=some u):=hide (fun j u hj=>hk4.cell ((un HR2) j u hj))
  replace HR3:Hid (∀ j u,(flatOps Bl)[j]?=some u→w4.cell? ((⟨g3,0,none⟩:Addr).add j)=some u):=hide (fun j u hj=>hk4.cell ((un HR3) j u hj))
  have HN4:=hide hn4
  have HR4:=hide hr4
  clear hn4 hk4 hc4 hr4 HN3 HCC
  generalize layS n r2 (h + la + 1 + lb + 1)=PC at X3 HN4 HR4 HVS ⊢
  obtain ⟨C,r3⟩:=PC
  simp only at X3 HN4 HR4 HVS ⊢
  have x5c:=(un X3).2.2.2.2
  clear X3
  generalize hCL:C.length=lc at *
  have HCL:=hide hCL
  clear hCL
  have hsum:la + lb + lc≤60:=by omega
  clear x4 x4' x5 x5' x5c
  go_wp2_with (at_builtin; refine un ?_)
  refine hide ?_
  obtain ⟨q1,c1,y1,hr,ho1,hk1,-⟩:=app_ops (w0:=w4) ((Kept.refl w4).alloc (.cells #[] 61)) (OpsOwn.empty (lays_new rfl) (Nat.le_refl _)) ⟨g2,0,none⟩ la cp2 A (un HAL).symm (fun j u hj=>((Kept.refl w4).alloc _).cell ((un HR2) j u hj)) (by have:=un HAL; simp; omega)
  refine wpList_appR _ rfl (.tmp 71) (.tmp 72) 31 rfl rfl rfl hr ?_
  clear hr
  generalize hm1:([]++A).length=m1 at ho1 ⊢
  obtain rfl:la=m1:=by have:=un HAL; simp at hm1; omega
  have HO1:=hide ho1
  have HK1:=hide hk1
  clear ho1 hk1 hm1
  go_wp2_with (at_builtin; refine un ?_)
  refine hide ?_
  obtain ⟨q2,c2,y2,hr,ho2,hk2,-⟩:=app_ops ((un HK1).alloc (.cells #[.int .i64 10,.int .i64 ((h:Int) + la + 1 + lb + 1)] 61)) ((un HO1).kept ((Kept.refl y1).alloc _)) ⟨y1.heap.size,0,none⟩ 1 1 [(10,(h:Int) + la + 1 + lb + 1)] rfl (fTwo_new _ _ _ _) (by have:=un HAL; simp; omega)
  refine wpList_appR _ rfl (.tmp 73) (.tmp 76) 31 rfl rfl rfl hr ?_
  clear hr
  generalize hm2:([]++A++[((10:Int),(h:Int) + la + 1 + lb + 1)]).length=m2 at ho2 ⊢
  obtain rfl:la + 1=m2:=by have:=un HAL; simp at hm2; omega
  have HO2:=hide ho2
  replace HK1:=hide hk2
  clear ho2 hk2 hm2 HO1
  go_wp2_with (at_builtin; refine un ?_)
  refine hide ?_
  obtain ⟨q3,c3,y3,hr,ho3,hk3,-⟩:=app_ops (un HK1) (un HO2) ⟨g3,0,none⟩ lb cp3 Bl (un HBL).symm (fun j u hj=>(un HK1).cell ((un HR3) j u hj)) (by have:=un HAL; have:=un HBL; simp; omega)
  refine wpList_appR _ rfl (.tmp 78) (.tmp 79) 31 rfl rfl rfl hr ?_
  clear hr
  generalize hm3:([]++A++[((10:Int),(h:Int) + la + 1 + lb + 1)]++Bl).length=m3 at ho3 ⊢
  obtain rfl:la + 1 + lb=m3:=by have:=un HAL; have:=un HBL; simp at hm3; omega
  have HO3:=hide ho3
  replace HK1:=hide hk3
  clear ho3 hk3 hm3 HO2
  go_wp2_with (at_builtin; refine un ?_)
  refine hide ?_
  obtain ⟨q4,c4,y4,hr,ho4,hk4,-⟩:=app_ops ((un HK1).alloc (.cells #[.int .i64 9,.int .i64 ((h:Int) + la + 1 + lb + 1 + lc)] 61)) ((un HO3).kept ((Kept.refl y3).alloc _)) ⟨y3.heap.size,0,none⟩ 1 1 [(9,(h:Int) + la + 1 + lb + 1 + lc)] rfl (fTwo_new _ _ _ _) (by have:=un HAL; have:=un HBL; simp; omega)
  refine wpList_appR _ rfl (.tmp 80) (.tmp 86) 31 rfl rfl rfl hr ?_
  clear hr
  generalize hm4:([]++A++[((10:Int),(h:Int) + la + 1 + lb + 1)]++Bl++[((9:Int),(h:Int) + la + 1 + lb + 1 + lc)]).length=m4 at ho4 ⊢
  obtain rfl:la + 1 + lb + 1=m4:=by have:=un HAL; have:=un HBL; simp at hm4; omega
  have HO4:=hide ho4
  replace HK1:=hide hk4
  clear ho4 hk4 hm4 HO3
  go_wp2_with (at_builtin; refine un ?_)
  refine hide ?_
  obtain ⟨q5,c5,y5,hr,ho5,hk5,-⟩:=app_ops (un HK1) (un HO4) ⟨g4,0,none⟩ lc cp4 C (un HCL).symm (fun j u hj=>(un HK1).cell ((un HR4) j u hj)) (by have:=un HAL; have:=un HBL; have:=un HCL; simp; omega)
  refine wpList_appR _ rfl (.tmp 88) (.tmp 89) 31 rfl rfl rfl hr ?_
  clear hr
  generalize hm5:([]++A++[((10:Int),(h:Int) + la + 1 + lb + 1)]++Bl++[((9:Int),(h:Int) + la + 1 + lb + 1 + lc)]++C).length=m5 at ho5 ⊢
  have HM5:=hide hm5
  have HO5:=hide ho5
  replace HK1:=hide hk5
  clear ho5 hk5 hm5 HO4
  go_wp2_with fail
  go_ret2
  refine ⟨_,v4,rfl,?_,?_,(un HK2).trans (un HK1)⟩
  · rw [un HVS]
    have h5:=(un HO5).low (un HK2).size
    have e:[]++A++[((10:Int),(h:Int) + la + 1 + lb + 1)]++Bl++[((9:Int),(h:Int) + la + 1 + lb + 1 + lc)]++C=A++(10,((h + la + 1 + lb + 1:Nat):Int)) :: (Bl++(9,((h + la + 1 + lb + 1 + lc:Nat):Int)) :: C):=by simp
    rw [e] at h5
    exact h5
  · rw [un HVS]; exact (un HN4).kept (un HK1)
end Go.Proofs.YtogcfkmekdpmmaaDoor
set_option maxRecDepth 100000
set_option maxHeartbeats 8000000
namespace Go.Proofs.YtogcfkmekdpmmaaDoor
open Go.RowKit Go.Maps

theorem take_twoF' {P:Program} {md:Region.Mode} {Q:Exit→Act→World→Prop} {S:World→Prop} {L tl tl':List Oper} {i k:Nat} {oi ok:Oper} {fuel:Nat} {listed:Array Bool} {a:Act} {w:World} (hd:L.drop i=oi :: tl) (hd':L.drop k=ok :: tl')
    (hr:Region.ready md L.toArray listed=[i,k])
    (h:∀ K':Act→World→Prop,Shut (∀ a w,S w→(S w→wpAnyH P md L.toArray Q S fuel (listed.setIfInBounds i true) a w)→K' a w)→if Region.wanted oi (yielded L.toArray a.tmps)=true then Oper.wp P oi a w K' Q else K' (a.put oi.dst undef) w)
    (h':∀ K':Act→World→Prop,Shut (∀ a w,S w→(S w→wpAnyH P md L.toArray Q S fuel (listed.setIfInBounds k true) a w)→K' a w)→if Region.wanted ok (yielded L.toArray a.tmps)=true then Oper.wp P ok a w K' Q else K' (a.put ok.dst undef) w) :
    wpAnyH P md L.toArray Q S (fuel + 1) listed a w :=
  wpAnyH_ready hr (by simp) (AllReadyH.cons (at_drop hd) h (AllReadyH.cons (at_drop hd') h' AllReadyH.nil))
theorem row_oldF {w:World} {base:Nat} {v:Value} {c:List (Int × Int)} (h:OpsOwn base w v c):v.ownBlock≠some w.heap.size:=by
  intro e
  obtain ⟨_,⟨rfl,_⟩ | ⟨g,cap,cur,rfl,_,hh,_⟩⟩:=h
  · cases e
  · have:=(Array.getElem?_eq_some_iff.1 hh).1
    have:=Option.some.inj e
    simp at this
    omega
theorem two_at {w:World} {D:Nat} {a b:Int} (h:w.heap[D]?=some (.cells #[.int .i64 a,.int .i64 b] 61)) (j:Nat) (u:Value) (hj:(flatOps [(a,b)])[j]?=some u):w.cell? ((⟨D,0,none⟩:Addr).add j)=some u:=by
  rw [add_zero,cell_lays h]
  simpa [flatOps] using hj
theorem laid_two_end {n q h M cn ln cx:Nat} {z:Int} {r r2 A Bl:List (Int × Int)} {w w5 y:World} {ox on:Option Addr} {x:Ending} (HVS:Hid (layS (n + 1) (((q:Int) + 2,z) :: r) h=(A++(Bl++[((q:Int) + 2 + 2,0)]),r2)))
    (HO:Hid (OpsOwn w5.heap.size y (.slice ox M cx) ([]++A++Bl++[((q:Int) + 4,(0:Int))]))) (HN3:Hid (NodesAt w5 (.slice on ln cn) r2)) (HKE:Hid (Kept w5 y)) (HK2:Hid (Kept w w5)) (hx:x=.returned (.tuple #[.slice ox M cx,.slice on ln cn])) :
    LaidPost (n + 1) (((q:Int) + 2,z) :: r) h w x y:=by
  refine ⟨_,_,hx,?_,?_,(un HK2).trans (un HKE)⟩
  · rw [un HVS]
    have h5:=(un HO).low (un HK2).size
    have e:[]++A++Bl++[((q:Int) + 4,(0:Int))]=A++(Bl++[((q:Int) + 2 + 2,0)]):=by simp; omega
    rw [e] at h5
    exact h5
  · rw [un HVS]; exact (un HN3).kept (un HKE)
theorem laid_two (n:Nat) (IH:Hid (∀ (e:List (Int × Int)) (o:Int) (h:Nat) (v:Value) (w:World),e.length≤n→1≤o→onlyS e o=true→(∀ x∈e,kindOk x)→h + 2 * e.length≤60→NodesAt w v e→Calls Tryd.prog 52 #[v,.int .i64 h] w (LaidPost n e h w))) (k z:Int) (r:List (Int × Int)) (o:Int) (h:Nat) (v:Value) (w:World) (hl:((k,z) :: r).length≤n + 1) (ho:1≤o) (h1:onlyS ((k,z) :: r) o=true) (hk:∀ x∈(k,z) :: r,kindOk x) (hb:h + 2 * ((k,z) :: r).length≤60) (hv:NodesAt w v ((k,z) :: r)) (h2:2≤k) (h6:k≤6) :
    Calls Tryd.prog 52 #[v,.int .i64 h] w (LaidPost (n + 1) ((k,z) :: r) h w):=by
  obtain ⟨q,rfl⟩:∃ q:Nat,k=(q:Int) + 2:=⟨(k - 2).toNat,by omega⟩
  have hx:=hk ((q:Int) + 2,z) (by simp)
  obtain ⟨b,o1,cap,rfl,hcap,hrl,c0,c1,hrest⟩:=hv.first
  unfold kindOk at hx
  have hl9:r.length≤n:=by simpa using hl
  have hb9:h + 2 * r.length + 2≤60:=by simp at hb; omega
  have HY:Hid (∀ u,Kept w u→u.cell? ⟨b,o1,none⟩=some (.int .i64 ((q:Int) + 2))∧u.cell? ⟨b,o1 + 1,none⟩=some (.int .i64 z)):=hide (fun u hu=>⟨hu.cell c0,hu.cell c1⟩)
  have HR:=hide hrest
  have HH:=hide (show onlyS r (o - 1 + partsS ((q:Int) + 2))=true by simp only [onlyS] at h1; rwa [if_neg (by omega)] at h1)
  have HK:=hide (show ∀ y∈r,kindOk y from fun y hy=>hk y (by simp [hy]))
  clear hrest h1 hk hv c0 c1 hl hb
  obtain ⟨oa,hoa,hsl⟩:=cut_first b o1 r.length cap hcap
  have HOA:=hide hoa
  clear hoa
  have h1i:(1:Int)≤((r.length + 1:Nat):Int):=by omega
  have h2i:(0:Int) < ((r.length + 1:Nat):Int):=by omega
  go_enter Tryd.func52,Tryd.ntmps52
  go_wp2_with fail
  go_region_held3 (fun u=>u.cell? ⟨b,o1,none⟩=some (.int .i64 ((q:Int) + 2))∧u.cell? ⟨b,o1 + 1,none⟩=some (.int .i64 z)) (exact (un HY) _ (by repeat (first | exact Kept.refl _ | refine Kept.drew ?_ | refine Kept.alloc ?_ _ | refine Kept.setCell ?_ (by simp) _))) (fail)
  rename_i hheld
  clear hheld
  have HK1:Hid (Kept w (w.alloc (.cells #[.int .i64 ((q:Int) + 2),.int .i64 z] 88)).drew):=hide ((Kept.refl w).alloc _).drew
  have HNR:Hid (NodesAt (w.alloc (.cells #[.int .i64 ((q:Int) + 2),.int .i64 z] 88)).drew (.slice oa r.length (cap - 1)) r):=hide (((un HR) (cap - 1) oa (by omega) (fun hne=>(un HOA) (by simpa using hne))).kept (un HK1))
  have d0:(w.alloc (.cells #[.int .i64 ((q:Int) + 2),.int .i64 z] 88)).drew.cell? ⟨w.heap.size,0,none⟩=some (.int .i64 ((q:Int) + 2)):=cell_lays (lays_drew (lays_new rfl)) 0
  have d1:(w.alloc (.cells #[.int .i64 ((q:Int) + 2),.int .i64 z] 88)).drew.cell? ⟨w.heap.size,1,none⟩=some (.int .i64 z):=cell_lays (lays_drew (lays_new rfl)) 1
  have HSZ:Hid (w.heap.size≤w.heap.size):=hide (Nat.le_refl _)
  generalize (w.alloc (.cells #[.int .i64 ((q:Int) + 2),.int .i64 z] 88)).drew=w1 at HK1 HNR d0 d1 ⊢
  clear HY HR hsl HSZ
  generalize w.heap.size=B at d0 d1 ⊢
  have h0:((q:Int) + 2)≠0:=by omega
  have h1:((q:Int) + 2)≠1:=by omega
  have hp:2≤partsS ((q:Int) + 2):=by unfold partsS; rw [if_neg (by omega)]; split <;> omega
  have hb0:(((q:Int) + 2) == 0)=false:=beq_eq_false_iff_ne.2 h0
  have hb1:(((q:Int) + 2) == 1)=false:=beq_eq_false_iff_ne.2 h1
  have X1:=hide (lay_next n r (o - 1 + partsS ((q:Int) + 2)) h hl9 (by omega) (un HH) (un HK))
  go_wp2_with fail
  refine ((un IH) r (o - 1 + partsS ((q:Int) + 2)) h _ w1 hl9 (by omega) (un HH) (un HK) (by omega) (un HNR)).mono ?_
  rintro _ w2 ⟨cv2,v2,rfl,hc2,hn2,hk2⟩
  obtain ⟨g2,cp2,rfl,_,_,hr2⟩:=hc2.reads (un X1).2.2.2.1
  have d2:=hk2.cell d0
  have HK2:=hide ((un HK1).trans hk2)
  have HN2:=hide hn2
  have HR2:=hide hr2
  clear hn2 hk2 hc2 d0 d1 HK1 HNR hr2
  have hv:layS (n + 1) ((((q:Int) + 2),z) :: r) h=((layS n r h).1++((layS n (layS n r h).2 (h + (layS n r h).1.length)).1++[((q:Int) + 2 + 2,0)]),(layS n (layS n r h).2 (h + (layS n r h).1.length)).2):=by
    conv=>lhs; unfold layS
    rw [if_neg h0,if_neg h1,if_neg (by show ¬ (q:Int) + 2=7; omega)]
  have hp3:partsS ((q:Int) + 2)=2:=by unfold partsS; rw [if_neg (by omega),if_pos (by omega)]
  rw [hp3] at X1
  have hb7:((q:Int) + 2 == 7)=false:=beq_eq_false_iff_ne.2 (by omega)
  have hq5:(q:Int) < 5:=by omega
  have hq0:(0:Int)≤(q:Int):=by omega
  clear hp HH h0 h1 hp3 hx h2 h6
  have HVS:=hide hv
  clear hv
  generalize layS n r h=PA at X1 HN2 HR2 HVS ⊢
  obtain ⟨A,r1⟩:=PA
  simp only at X1 HN2 HR2 HVS ⊢
  obtain ⟨x1,x2,x3,x4,x5⟩:=un X1
  have X2:=hide (lay_next n r1 (o - 1 + 2 - 1) (h + A.length) x1 (by omega) x2 x3)
  have HCB:=hide ((un IH) r1 (o - 1 + 2 - 1) (h + A.length) v2 w2 x1 (by omega) x2 x3 (by omega) (un HN2))
  clear x1 x2 x3 X1
  generalize hAL:A.length=la at *
  have HAL:=hide hAL
  rw [show ((h + la:Nat):Int)=(h:Int) + la by omega] at HCB
  clear hAL
  go_wp2_with fail
  refine (un HCB).mono ?_
  rintro _ w3 ⟨cv3,v3,rfl,hc3,hn3,hk3⟩
  obtain ⟨g3,cp3,rfl,_,_,hr3⟩:=hc3.reads (un X2).2.2.2.1
  replace HK2:=hide ((un HK2).trans hk3)
  replace HR2:Hid (∀ j u,(flatOps A)[j]?=some u→w3.cell? ((⟨g2,0,none⟩:Addr).add j)=some u):=hide (fun j u hj=>hk3.cell ((un HR2) j u hj))
  have HN3:=hide hn3
  have HR3:=hide hr3
  have d3:=hk3.cell d2
  clear hn3 hk3 hc3 hr3 HN2 HCB d2
  generalize layS n r1 (h + la)=PB at X2 HN3 HR3 HVS ⊢
  obtain ⟨Bl,r2⟩:=PB
  simp only at X2 HN3 HR3 HVS ⊢
  obtain ⟨_,_,_,x4',x5'⟩:=un X2
  clear X2
  generalize hBL:Bl.length=lb at *
  have HBL:=hide hBL
  clear hBL
  have hsum:la + lb≤60:=by omega
  clear x4 x4' x5 x5'
  go_wp2_with fail
  have L5:(w3.alloc (.cells #[.int .i64 4,.int .i64 5,.int .i64 6,.int .i64 7,.int .i64 8] 3)).heap[w3.heap.size]?=some (.cells #[.int .i64 4,.int .i64 5,.int .i64 6,.int .i64 7,.int .i64 8] 3):=lays_new rfl
  have x0:(w3.alloc (.cells #[.int .i64 4,.int .i64 5,.int .i64 6,.int .i64 7,.int .i64 8] 3)).cell? ⟨B,0,none⟩=some (.int .i64 ((q:Int) + 2)):=((Kept.refl w3).alloc _).cell d3
  have x1:(w3.alloc (.cells #[.int .i64 4,.int .i64 5,.int .i64 6,.int .i64 7,.int .i64 8] 3)).cell? ⟨w3.heap.size,q,none⟩=some (.int .i64 ((q:Int) + 4)):=by
    rw [cell_lays L5]
    have:q=0∨q=1∨q=2∨q=3∨q=4:=by omega
    rcases this with e | e | e | e | e <;> subst e <;> rfl
  have hk5:=(Kept.refl w3).alloc (.cells #[.int .i64 4,.int .i64 5,.int .i64 6,.int .i64 7,.int .i64 8] 3)
  replace HK2:=hide ((un HK2).trans hk5)
  replace HR2:Hid (∀ j u,(flatOps A)[j]?=some u→(w3.alloc (.cells #[.int .i64 4,.int .i64 5,.int .i64 6,.int .i64 7,.int .i64 8] 3)).cell? ((⟨g2,0,none⟩:Addr).add j)=some u):=hide (fun j u hj=>hk5.cell ((un HR2) j u hj))
  replace HR3:Hid (∀ j u,(flatOps Bl)[j]?=some u→(w3.alloc (.cells #[.int .i64 4,.int .i64 5,.int .i64 6,.int .i64 7,.int .i64 8] 3)).cell? ((⟨g3,0,none⟩:Addr).add j)=some u):=hide (fun j u hj=>hk5.cell ((un HR3) j u hj))
  replace HN3:=hide ((un HN3).kept hk5)
  clear hk5 L5 d3
  generalize w3.alloc (.cells #[.int .i64 4,.int .i64 5,.int .i64 6,.int .i64 7,.int .i64 8] 3)=w5 at *
  generalize w3.heap.size=B5 at *
  obtain ⟨on,ln,cn,rfl⟩:∃ on ln cn,v3=.slice on ln cn:=by
    obtain ⟨on,cn,e,_⟩:=un HN3
    exact ⟨on,_,cn,e⟩
  have hwq:IntKind.i64.wrap (q:Int)=(q:Int):=by rw [IntKind.wrap_i64]; omega
  refine wp_region_held_drew (S:=fun y=>Kept w5 y) (by kernel_rfl) ((Kept.refl w5).drew) (fun hHeld=>?_)
  refine planY [1,3,5,6,7,8,9,10,11,14] ?_
  repeat
    refine takeY (v:=?_) hHeld (fun u hSu=>?_) ?_
    rotate_left
    · (have y0:=Kept.cell hSu x0; have y1:=Kept.cell hSu x1; (try dsimp only at y0 y1); go_simp) <;> with_reducible rfl
    try simp only [PS]
  refine endY ?_
  refine take_twoF' (i:=0) (k:=12) rfl rfl (by kernel_rfl) (fun K1 hK1=>?_) (fun K1 hK1=>?_)
  · skip
    go_simp
    refine hK1.out _ _ (((Kept.refl w5).alloc _).drew) (fun hHeld=>?_)
    have hrow:OpsOwn w5.heap.size (w5.alloc (.cells #[] 61)).drew (.slice (some ⟨w5.heap.size,0,none⟩) 0 0) []:=OpsOwn.empty (show (w5.alloc (.cells #[] 61)).drew.heap[w5.heap.size]?=some (.cells #[] 61) from (show (w5.alloc (.cells #[] 61)).heap[w5.heap.size]?=_ from lays_new rfl)) (Nat.le_refl _)
    generalize (w5.alloc (.cells #[] 61)).drew=y2 at hrow hHeld ⊢
    refine take_twoF' (i:=2) (k:=12) rfl rfl (by kernel_rfl) (fun K3 hK3=>?_) (fun K3 hK3=>?_)
    · skip
      obtain ⟨q4,c4,y4,hr,hrow',hk',hold⟩:=app_ops hHeld hrow ⟨g2,0,none⟩ la cp2 A (un HAL).symm (fun j u hj=>Kept.cell hHeld ((un HR2) j u hj)) (by have:=un HAL; have:=un HBL; simp; omega)
      refine step_appR _ rfl (.tmp 102) (.tmp 103) 31 rfl rfl rfl hr ?_
      simp only [PS]
      refine hK3.out _ _ hk' (fun hHeld=>?_)
      replace hrow:=hrow'
      clear hr hk' hold hrow'
      rw [show (([]:List (Int × Int))++A).length=la by have:=un HAL; have:=un HBL; simp; omega] at hrow ⊢
      refine take_twoF' (i:=4) (k:=12) rfl rfl (by kernel_rfl) (fun K5 hK5=>?_) (fun K5 hK5=>?_)
      · skip
        obtain ⟨q6,c6,y6,hr,hrow',hk',hold⟩:=app_ops hHeld hrow ⟨g3,0,none⟩ lb cp3 Bl (un HBL).symm (fun j u hj=>Kept.cell hHeld ((un HR3) j u hj)) (by have:=un HAL; have:=un HBL; simp; omega)
        refine step_appR _ rfl (.tmp 104) (.tmp 105) 31 rfl rfl rfl hr ?_
        simp only [PS]
        refine hK5.out _ _ hk' (fun hHeld=>?_)
        replace hrow:=hrow'
        clear hr hk' hold hrow'
        rw [show (([]:List (Int × Int))++A++Bl).length=la + lb by have:=un HAL; have:=un HBL; simp; omega] at hrow ⊢
        refine take_oneF (i:=12) rfl (by kernel_rfl) (fun K7 hK7=>?_)
        go_simp
        refine hK7.out _ _ (Kept.alloc hHeld _) (fun hHeld=>?_)
        have hD:(y6.alloc (.cells #[.int .i64 ((q:Int) + 4),.int .i64 0] 61)).heap[y6.heap.size]?=some (.cells #[.int .i64 ((q:Int) + 4),.int .i64 0] 61):=lays_new rfl
        have hne:(Value.slice _ _ _).ownBlock≠some y6.heap.size:=row_oldF hrow
        replace hrow:=hrow.kept ((Kept.refl y6).alloc (.cells #[.int .i64 ((q:Int) + 4),.int .i64 0] 61))
        generalize (y6.alloc (.cells #[.int .i64 ((q:Int) + 4),.int .i64 0] 61))=y8 at hD hHeld hrow ⊢
        generalize y6.heap.size=D at hD hne ⊢
        refine take_oneF (i:=13) rfl (by kernel_rfl) (fun K9 hK9=>?_)
        obtain ⟨q10,c10,y10,hr,hrow',hk',-⟩:=app_ops hHeld hrow ⟨D,0,none⟩ 1 1 [((q:Int) + 4,0)] rfl (fun j u hj=>two_at hD j u hj) (by have:=un HAL; have:=un HBL; simp; omega)
        refine step_appR _ rfl (.tmp 106) (.tmp 114) 31 rfl rfl rfl hr ?_
        simp only [PS]
        refine hK9.out _ _ hk' (fun hHeld=>?_)
        have HO:=hide hrow'
        have HKE:=hide hk'
        generalize ([]++A++Bl++[((q:Int) + 4,(0:Int))]).length=M at HO ⊢
        clear hr hk' hrow' hrow hD hne x0 x1
        refine planY [15,16] ?_
        repeat
          refine takeY (v:=?_) hHeld (fun u hSu=>?_) ?_
          rotate_left
          · go_simp <;> with_reducible rfl
          try simp only [PS]
        refine endY ?_
        refine wpAnyH_done (by kernel_rfl) ?_ _
        clear hHeld
        go_wp2_with fail
        go_ret2
        exact laid_two_end HVS HO HN3 HKE HK2 rfl
      · skip
        go_simp
        refine hK5.out _ _ (Kept.alloc hHeld _) (fun hHeld=>?_)
        have hD:(y4.alloc (.cells #[.int .i64 ((q:Int) + 4),.int .i64 0] 61)).heap[y4.heap.size]?=some (.cells #[.int .i64 ((q:Int) + 4),.int .i64 0] 61):=lays_new rfl
        have hne:(Value.slice _ _ _).ownBlock≠some y4.heap.size:=row_oldF hrow
        replace hrow:=hrow.kept ((Kept.refl y4).alloc (.cells #[.int .i64 ((q:Int) + 4),.int .i64 0] 61))
        generalize (y4.alloc (.cells #[.int .i64 ((q:Int) + 4),.int .i64 0] 61))=y11 at hD hHeld hrow ⊢
        generalize y4.heap.size=D at hD hne ⊢
        refine take_oneF (i:=4) rfl (by kernel_rfl) (fun K12 hK12=>?_)
        obtain ⟨q13,c13,y13,hr,hrow',hk',hold⟩:=app_ops hHeld hrow ⟨g3,0,none⟩ lb cp3 Bl (un HBL).symm (fun j u hj=>Kept.cell hHeld ((un HR3) j u hj)) (by have:=un HAL; have:=un HBL; simp; omega)
        refine step_appR _ rfl (.tmp 104) (.tmp 105) 31 rfl rfl rfl hr ?_
        simp only [PS]
        refine hK12.out _ _ hk' (fun hHeld=>?_)
        obtain ⟨hD',hne'⟩:=hold _ _ hD hne
        replace hD:=hD'
        replace hne:=hne'
        clear hD' hne'
        replace hrow:=hrow'
        clear hr hk' hold hrow'
        rw [show (([]:List (Int × Int))++A++Bl).length=la + lb by have:=un HAL; have:=un HBL; simp; omega] at hrow hne ⊢
        refine take_oneF (i:=13) rfl (by kernel_rfl) (fun K14 hK14=>?_)
        obtain ⟨q15,c15,y15,hr,hrow',hk',-⟩:=app_ops hHeld hrow ⟨D,0,none⟩ 1 1 [((q:Int) + 4,0)] rfl (fun j u hj=>two_at hD j u hj) (by have:=un HAL; have:=un HBL; simp; omega)
        refine step_appR _ rfl (.tmp 106) (.tmp 114) 31 rfl rfl rfl hr ?_
        simp only [PS]
        refine hK14.out _ _ hk' (fun hHeld=>?_)
        have HO:=hide hrow'
        have HKE:=hide hk'
        generalize ([]++A++Bl++[((q:Int) + 4,(0:Int))]).length=M at HO ⊢
        clear hr hk' hrow' hrow hD hne x0 x1
        refine planY [15,16] ?_
        repeat
          refine takeY (v:=?_) hHeld (fun u hSu=>?_) ?_
          rotate_left
          · go_simp <;> with_reducible rfl
          try simp only [PS]
        refine endY ?_
        refine wpAnyH_done (by kernel_rfl) ?_ _
        clear hHeld
        go_wp2_with fail
        go_ret2
        exact laid_two_end HVS HO HN3 HKE HK2 rfl
    · skip
      go_simp
      refine hK3.out _ _ (Kept.alloc hHeld _) (fun hHeld=>?_)
      have hD:(y2.alloc (.cells #[.int .i64 ((q:Int) + 4),.int .i64 0] 61)).heap[y2.heap.size]?=some (.cells #[.int .i64 ((q:Int) + 4),.int .i64 0] 61):=lays_new rfl
      have hne:(Value.slice _ _ _).ownBlock≠some y2.heap.size:=row_oldF hrow
      replace hrow:=hrow.kept ((Kept.refl y2).alloc (.cells #[.int .i64 ((q:Int) + 4),.int .i64 0] 61))
      generalize (y2.alloc (.cells #[.int .i64 ((q:Int) + 4),.int .i64 0] 61))=y16 at hD hHeld hrow ⊢
      generalize y2.heap.size=D at hD hne ⊢
      refine take_oneF (i:=2) rfl (by kernel_rfl) (fun K17 hK17=>?_)
      obtain ⟨q18,c18,y18,hr,hrow',hk',hold⟩:=app_ops hHeld hrow ⟨g2,0,none⟩ la cp2 A (un HAL).symm (fun j u hj=>Kept.cell hHeld ((un HR2) j u hj)) (by have:=un HAL; have:=un HBL; simp; omega)
      refine step_appR _ rfl (.tmp 102) (.tmp 103) 31 rfl rfl rfl hr ?_
      simp only [PS]
      refine hK17.out _ _ hk' (fun hHeld=>?_)
      obtain ⟨hD',hne'⟩:=hold _ _ hD hne
      replace hD:=hD'
      replace hne:=hne'
      clear hD' hne'
      replace hrow:=hrow'
      clear hr hk' hold hrow'
      rw [show (([]:List (Int × Int))++A).length=la by have:=un HAL; have:=un HBL; simp; omega] at hrow hne ⊢
      refine take_oneF (i:=4) rfl (by kernel_rfl) (fun K19 hK19=>?_)
      obtain ⟨q20,c20,y20,hr,hrow',hk',hold⟩:=app_ops hHeld hrow ⟨g3,0,none⟩ lb cp3 Bl (un HBL).symm (fun j u hj=>Kept.cell hHeld ((un HR3) j u hj)) (by have:=un HAL; have:=un HBL; simp; omega)
      refine step_appR _ rfl (.tmp 104) (.tmp 105) 31 rfl rfl rfl hr ?_
      simp only [PS]
      refine hK19.out _ _ hk' (fun hHeld=>?_)
      obtain ⟨hD',hne'⟩:=hold _ _ hD hne
      replace hD:=hD'
      replace hne:=hne'
      clear hD' hne'
      replace hrow:=hrow'
      clear hr hk' hold hrow'
      rw [show (([]:List (Int × Int))++A++Bl).length=la + lb by have:=un HAL; have:=un HBL; simp; omega] at hrow hne ⊢
      refine take_oneF (i:=13) rfl (by kernel_rfl) (fun K21 hK21=>?_)
      obtain ⟨q22,c22,y22,hr,hrow',hk',-⟩:=app_ops hHeld hrow ⟨D,0,none⟩ 1 1 [((q:Int) + 4,0)] rfl (fun j u hj=>two_at hD j u hj) (by have:=un HAL; have:=un HBL; simp; omega)
      refine step_appR _ rfl (.tmp 106) (.tmp 114) 31 rfl rfl rfl hr ?_
      simp only [PS]
      refine hK21.out _ _ hk' (fun hHeld=>?_)
      have HO:=hide hrow'
      have HKE:=hide hk'
      generalize ([]++A++Bl++[((q:Int) + 4,(0:Int))]).length=M at HO ⊢
      clear hr hk' hrow' hrow hD hne x0 x1
      refine planY [15,16] ?_
      repeat
        refine takeY (v:=?_) hHeld (fun u hSu=>?_) ?_
        rotate_left
        · go_simp <;> with_reducible rfl
        try simp only [PS]
      refine endY ?_
      refine wpAnyH_done (by kernel_rfl) ?_ _
      clear hHeld
      go_wp2_with fail
      go_ret2
      exact laid_two_end HVS HO HN3 HKE HK2 rfl
  · skip
    go_simp
    refine hK1.out _ _ (((Kept.refl w5).alloc _).drew) (fun hHeld=>?_)
    have hD:(w5.alloc (.cells #[.int .i64 ((q:Int) + 4),.int .i64 0] 61)).drew.heap[w5.heap.size]?=some (.cells #[.int .i64 ((q:Int) + 4),.int .i64 0] 61):=(show (w5.alloc (.cells #[.int .i64 ((q:Int) + 4),.int .i64 0] 61)).heap[w5.heap.size]?=_ from lays_new rfl)
    have hDlt:w5.heap.size < (w5.alloc (.cells #[.int .i64 ((q:Int) + 4),.int .i64 0] 61)).drew.heap.size:=(Array.getElem?_eq_some_iff.1 hD).1
    generalize (w5.alloc (.cells #[.int .i64 ((q:Int) + 4),.int .i64 0] 61)).drew=y23 at hD hHeld hDlt ⊢
    generalize hDD:w5.heap.size=D at hD ⊢
    have hne:True:=trivial
    refine take_oneF (i:=0) rfl (by kernel_rfl) (fun K24 hK24=>?_)
    go_simp
    refine hK24.out _ _ (Kept.alloc hHeld _) (fun hHeld=>?_)
    have hrow:OpsOwn w5.heap.size (y23.alloc (.cells #[] 61)) (.slice (some ⟨y23.heap.size,0,none⟩) 0 0) []:=OpsOwn.empty (show (y23.alloc (.cells #[] 61)).heap[y23.heap.size]?=some (.cells #[] 61) from lays_new rfl) (Nat.le_of_lt hDlt)
    have hne:(Value.slice (some ⟨y23.heap.size,0,none⟩) 0 0).ownBlock≠some D:=fun e=>by have:=Option.some.inj e; simp at this; have:=(Array.getElem?_eq_some_iff.1 hD).1; omega
    replace hD:=lays_alloc hD (.cells #[] 61)
    generalize (y23.alloc (.cells #[] 61))=y25 at hrow hHeld hD ⊢
    generalize y23.heap.size=E25 at hrow hne ⊢
    refine take_oneF (i:=2) rfl (by kernel_rfl) (fun K26 hK26=>?_)
    obtain ⟨q27,c27,y27,hr,hrow',hk',hold⟩:=app_ops hHeld hrow ⟨g2,0,none⟩ la cp2 A (un HAL).symm (fun j u hj=>Kept.cell hHeld ((un HR2) j u hj)) (by have:=un HAL; have:=un HBL; simp; omega)
    refine step_appR _ rfl (.tmp 102) (.tmp 103) 31 rfl rfl rfl hr ?_
    simp only [PS]
    refine hK26.out _ _ hk' (fun hHeld=>?_)
    obtain ⟨hD',hne'⟩:=hold _ _ hD hne
    replace hD:=hD'
    replace hne:=hne'
    clear hD' hne'
    replace hrow:=hrow'
    clear hr hk' hold hrow'
    rw [show (([]:List (Int × Int))++A).length=la by have:=un HAL; have:=un HBL; simp; omega] at hrow hne ⊢
    refine take_oneF (i:=4) rfl (by kernel_rfl) (fun K28 hK28=>?_)
    obtain ⟨q29,c29,y29,hr,hrow',hk',hold⟩:=app_ops hHeld hrow ⟨g3,0,none⟩ lb cp3 Bl (un HBL).symm (fun j u hj=>Kept.cell hHeld ((un HR3) j u hj)) (by have:=un HAL; have:=un HBL; simp; omega)
    refine step_appR _ rfl (.tmp 104) (.tmp 105) 31 rfl rfl rfl hr ?_
    simp only [PS]
    refine hK28.out _ _ hk' (fun hHeld=>?_)
    obtain ⟨hD',hne'⟩:=hold _ _ hD hne
    replace hD:=hD'
    replace hne:=hne'
    clear hD' hne'
    replace hrow:=hrow'
    clear hr hk' hold hrow'
    rw [show (([]:List (Int × Int))++A++Bl).length=la + lb by have:=un HAL; have:=un HBL; simp; omega] at hrow hne ⊢
    refine take_oneF (i:=13) rfl (by kernel_rfl) (fun K30 hK30=>?_)
    obtain ⟨q31,c31,y31,hr,hrow',hk',-⟩:=app_ops hHeld hrow ⟨D,0,none⟩ 1 1 [((q:Int) + 4,0)] rfl (fun j u hj=>two_at hD j u hj) (by have:=un HAL; have:=un HBL; simp; omega)
    refine step_appR _ rfl (.tmp 106) (.tmp 114) 31 rfl rfl rfl hr ?_
    simp only [PS]
    refine hK30.out _ _ hk' (fun hHeld=>?_)
    have HO:=hide hrow'
    have HKE:=hide hk'
    generalize ([]++A++Bl++[((q:Int) + 4,(0:Int))]).length=M at HO ⊢
    clear hr hk' hrow' hrow hD hne x0 x1
    refine planY [15,16] ?_
    repeat
      refine takeY (v:=?_) hHeld (fun u hSu=>?_) ?_
      rotate_left
      · go_simp <;> with_reducible rfl
      try simp only [PS]
    refine endY ?_
    refine wpAnyH_done (by kernel_rfl) ?_ _
    clear hHeld
    go_wp2_with fail
    go_ret2
    exact laid_two_end HVS HO HN3 HKE HK2 rfl
end Go.Proofs.YtogcfkmekdpmmaaDoor
set_option maxRecDepth 100000
set_option maxHeartbeats 8000000
namespace Go.Proofs.YtogcfkmekdpmmaaDoor
open Go.RowKit Go.Maps

theorem laid_any:∀ (n:Nat) (e:List (Int × Int)) (o:Int) (h:Nat) (v:Value) (w:World),e.length≤n→1≤o→onlyS e o=true→(∀ x∈e,kindOk x)→h + 2 * e.length≤60→NodesAt w v e →
    Calls Tryd.prog 52 #[v,.int .i64 h] w (LaidPost n e h w)
  | n,[],o,h,v,w,_,ho,h1,_,_,_=>by simp [onlyS] at h1; omega
  | 0,x :: r,o,h,v,w,hl,_,_,_,_,_=>by simp at hl
  | n + 1,(k,z) :: r,o,h,v,w,hl,ho,h1,hk,hb,hv=>by
    have hx:=hk (k,z) (by simp)
    unfold kindOk at hx
    by_cases hk1:k≤1
    · exact laid_leaf n k z r o h v w hl ho h1 hk hb hv hk1
    · by_cases h7:k=7
      · exact laid_if n (hide (laid_any n)) k z r o h v w hl ho h1 hk hb hv h7
      · exact laid_two n (hide (laid_any n)) k z r o h v w hl ho h1 hk hb hv (by omega) (by simp only at hx; omega)
end Go.Proofs.YtogcfkmekdpmmaaDoor
