/-
  Proved: whatever two strings it is handed, the statement DeskPlays (M1, M2: Play answers just what the document says, errors too, whatever it is handed) returns true, and its arguments read afterwards as they read before. Conditions: the variables that the row lists start as the text of the program lays them (the card ties them); nothing else beyond the own ones of the form.
-/
import Derived.Test.YtokhibfenccijaaGreatDoorCards
import Derived.Test.YtokhibfenccijaaGreatDoorTie
import Derived.Test.YtokhibfenccijaaGreatDoorQB45
import Derived.Lay
import Derived.Deep.DeepWitnessRowRef
set_option maxRecDepth 100000
set_option maxHeartbeats 8000000
namespace Go.Proofs.YtokhibfenccijaaGreatDoor
open Go.Proofs.Tryz
open Go.RowKit Go.ChangeShapes Go.WideShapes Go.ChangeAt
theorem tM{a:World}(f:laidMetH prog Rows.deskPlaysRow.laid a)(h:a.ShapedOpen prog):eL a∧bm a:=by
 have b:laidMet prog Rows.deskPlaysRow.laid a:=by rw[←MakeChecks.laidMetH_plain _ _ _ (by kernel_rfl)];exact f
 refine⟨⟨?_,⟨?_,?_⟩,?_,Go.Proofs.cell_of_shapedOpen_int (zero:=#[.int .i64 0]) (t:=3) h (of_decide_eq_true (by kernel_rfl)) (by kernel_rfl) rfl (by kernel_rfl) (by kernel_rfl) underlying3⟩,?_⟩;·exact Lib.tabIs_of_head (rest:=[]) (g:=7) (t:=236) (e:=216) (n:=20) (by kernel_rfl) (by kernel_rfl) (by kernel_rfl) (by kernel_rfl) (by kernel_rfl) (by kernel_rfl) (b.filter (fun c=>c.1== "internal/strconv.uint64pow10"))
 ·exact tN (g:=5) (ti:=53) (by kernel_rfl) (by kernel_rfl) underlying53 (Lib.laidMet.reads b (n:= "strconv.ErrSyntax") (d:=Rows.laid_strconv_ErrSyntax) (by simp[Rows.deskPlaysRow]))
 ·exact tN (g:=6) (ti:=53) (by kernel_rfl) (by kernel_rfl) underlying53 (Lib.laidMet.reads b (n:= "strconv.ErrRange") (d:=Rows.laid_strconv_ErrRange) (by simp[Rows.deskPlaysRow]))
 ·exact IY (Lib.laidMet.reads b (by simp[Rows.deskPlaysRow]))
 ·exact Dk (f.filter (fun c=>c.1== "glebe/op.kinds"))
theorem zV(H:Type)(enc:TypeId×Value→H)(a:World)(base:Nat)(args:Array Value)(c gs:List (DataW H))(t:List MemPlace)(f:∀(p:Nat)g b,f3.params[p]?=some g→args[p]?=some b→Value.okWide prog a .any base g b)(l:DataW.Whole enc prog f3.params.toList Rows.deskPlaysSpec.vars false a args.toList c gs t)(C:(DataW.weightsEach prog (f3.params.toList++(OpenSpec.ofChange Rows.deskPlaysSpec).bare.plain.varTypes prog) (c++gs)).all (·≤reachBytes)=true)(k:laidMetH prog Rows.deskPlaysRow.laid a)(o:a.ShapedOpen prog):Calls prog 3 args a fun j i=>∃b,j=.returned b∧Rows.deskPlaysSpec.post enc prog f3 false true false false a args b i:=by
 have m:=l;obtain⟨q,W,w,y,rfl,Q,S⟩:=l;have d:DataW.TrodAll enc prog a 0 (fun _=>true) true f3.params.toList args.toList c q:=w;have A:∀h∈q,h.block<a.heap.size:=fun h D=>by simpa using m.lt h (by simp[D])
 have x:=d;rw[params3]at d f C;obtain⟨r,Z,K,M,T,X,P,rfl,rfl,O,E⟩:=trodAll_cons d;obtain⟨s,a0,L,N,V,Y,rfl,rfl,rfl,v,F⟩:=trodAll_cons E;obtain⟨rfl,rfl,rfl⟩:=trodAll_nil F;obtain rfl:args=#[r,s]:=by cases args;simp_all
 obtain⟨rfl,rfl⟩:=trodVars_none y;obtain⟨G,rfl⟩:=okWide_string underlying9 (f 0 9 r rfl rfl);obtain⟨I,rfl,rfl,rfl,B⟩:=Go.ChangeMaps.open_string underlying9 (f 1 9 s rfl rfl) v;refine(Ab G I a B (tM k o).2 (tM k o).1).mono fun j i⟨z,n⟩=>?_;subst z;refine⟨_,rfl,_,_,_,[],_,[],m,trodAll_mk1 (shut_bool underlying4 _),xn n ?_ x A,rfl,n.frame _,fun u=>by cases u⟩;intro g e;rw[params3]at e;simp only[List.mem_cons,List.not_mem_nil,or_false]at e;rcases e with rfl|rfl;·exact⟨by kernel_rfl,of_decide_eq_true (by kernel_rfl)⟩
 ·exact⟨by kernel_rfl,of_decide_eq_true (by kernel_rfl)⟩
theorem zW(a:Os):laidMet prog Rows.deskPlaysRow.laid (((World.laidAll prog a Rows.deskPlaysRow.laid)).forCall (fun _ _=>0) ⟨#[],#[.string ⟨#[]⟩,.string ⟨#[]⟩],[]⟩).memory:=laidMet_laidAll _ (by kernel_rfl) (by kernel_rfl)
theorem zZ(a:Os){H:Type}(enc:TypeId×Value→H):∃b,DataW.whole enc prog (((World.laidAll prog a Rows.deskPlaysRow.laid)).forCall (fun _ _=>0) ⟨#[],#[.string ⟨#[]⟩,.string ⟨#[]⟩],[]⟩).memory f3.params.toList Rows.deskPlaysSpec.vars false (#[.string ⟨#[]⟩,.string ⟨#[]⟩]:Array Value).toList 8=some ([.lit (.string []),.lit (.string [])],[],b):=⟨[],by kernel_rfl⟩
theorem zX(a:Os)(p:a.Started)(H:Type)(enc:TypeId×Value→H)(b:Stop.Interp):ReturnsInHanded {} checked a 3 .any ((OpenSpec.ofChange Rows.deskPlaysSpec).preRow enc prog f3 Rows.deskPlaysRow.domain false Rows.deskPlaysRow.laid) (((OpenSpec.ofChange Rows.deskPlaysSpec).at b).post enc prog f3 false true false false):=by obtain⟨r,o⟩:=zZ a enc;refine returnsInHanded_of_row (C:=checked) (s:=OpenSpec.ofChange Rows.deskPlaysSpec) own p (by kernel_rfl) func3 (witness_row_atRef (enc:=enc) (C:=checked) false (World.laidAll prog a Rows.deskPlaysRow.laid) #[.string ⟨#[]⟩,.string ⟨#[]⟩] (World.laidAll_os _ _ _) (by kernel_rfl) (by kernel_rfl) (by kernel_rfl) (OpenSpec.preRow_of_cond 8 o (by kernel_rfl) (fun q k=>by cases k) (by kernel_rfl) (by rw[MakeChecks.laidMetH_plain _ _ _ (by kernel_rfl)];exact zW a))) ?_;intro c e d g h f n j _ _ m i l _;exact zV H enc c e d g h f n j m i l
theorem deskPlays_said:Rows.DeskPlaysSaid:=OpenClaim.holds_of_cond 3 f3 rfl rfl rfl rfl rfl rfl rfl ⟨rfl,rfl,rfl,rfl,rfl⟩ rfl rfl rfl rfl rfl (by kernel_rfl) func3 (by kernel_rfl) (of_decide_eq_true (by kernel_rfl)) (by unfold Func.isWrapper;first|(rw[if_pos (by decide+kernel)];kernel_rfl)|(rw[if_neg (by decide+kernel)];exact⟨rfl,rfl⟩)) (fun d e b c _ a=>by rw[OpenClaim.pre_eq_preRow];exact zX d e b c a)
theorem zY(f:FuncId)(a:Func)(e:Tryz.pinned.checked.prog.funcNamed "glebe/glebelaw.DeskPlays"=some f)(g:Tryz.pinned.checked.prog.funcs[f]?=some a):true=Tryz.pinned.checked.prog.looks []∧∀(j:Nat)b,a.params[j]?=some b→Tryz.pinned.checked.prog.wantsStandIn b=false:=by
 obtain rfl:f=3:=Option.some.inj ((show prog.funcNamed "glebe/glebelaw.DeskPlays"=some 3 by kernel_rfl).symm.trans e)|>.symm;obtain rfl:a=f3:=(Option.some.inj (func3.symm.trans g)).symm;refine⟨by kernel_rfl,fun j b d=>?_⟩;rw[params3]at d;have c:=Array.mem_of_getElem? d;simp only[List.mem_toArray,List.mem_cons,List.not_mem_nil,or_false]at c;rcases c with rfl|rfl;·exact(show prog.wantsStandIn 9=false by kernel_rfl)
 ·exact(show prog.wantsStandIn 9=false by kernel_rfl)
theorem deskPlays_card:Rows.DeskPlaysCardSaid:=Claim7.holds_tied_plain_at .later [] _ _ _ _ deskPlays_said (fun _ a=>by cases a) (by kernel_rfl) (fun _ a=>by cases a) deskPlays_row_tie rfl ⟨rfl,rfl⟩ (by kernel_rfl) rfl zY (by kernel_rfl)
end Go.Proofs.YtokhibfenccijaaGreatDoor
