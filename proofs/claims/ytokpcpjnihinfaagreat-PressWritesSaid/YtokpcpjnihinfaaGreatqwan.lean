/-
  The law PressWrites: for all bytes under way, all styles and all bytes it returns true. No condition: how long the pen can be comes from the form's own reach.
-/
import Derived.Test.YtokpcpjnihinfaaGreatqwaa
import Derived.Test.YtokpcpjnihinfaaGreatqwal
import Derived.Test.YtokpcpjnihinfaaGreatqwam
set_option maxRecDepth 100000
set_option maxHeartbeats 16000000
namespace Go.Proofs.YtokpcpjnihinfaaGreat
open Value renaming int → ae, slice → af, bool → ai
open IntKind renaming i64 → aj
open _root_.Go.Proofs.Tryz
open Go.RowKit Go.ChangeShapes Go.WideShapes Go.ChangeAt Go.Joins
theorem PN(p:iz)(Ah:Option Addr)(hc:Nat)(Aw:Option Addr)(wc:Nat)(Ap:Option Addr)(pc:Nat)(s ch m:Int)(z:Bool)(A:Option Addr)(c:Nat)(b:List Nat)(w:World)(hp:iD w w.heap.size p Ah hc Aw wc Ap pc)(ad:p.ie.length<=140737488355328)(_: -9223372036854775808<=s/\s<=9223372036854775807)(_: -9223372036854775808<=ch/\ch<=9223372036854775807)(_: -9223372036854775808<=m/\m<=9223372036854775807)(rb:ib w w.heap.size A b.length c (hH b)):
  Calls prog 4 #[.agg (iA p Ah hc Aw wc Ap pc),.agg #[ae aj s,ae aj ch,ae aj m,ai z],af A b.length c] w fun e w'=>e=.returned (ai true)/\Below w.heap.size w w':=
 Pe Ga PI PJ Gb PH p Ah hc Aw wc Ap pc s ch m z A c b w hp ad rb
theorem PO(os:Os)(started:os.Started)(H:Type)(enc:TypeId×Value->H):
  ReturnsInHanded {} checked os 4 .any (Rows.pressWritesSpec.pre6 enc prog Tryz.f4 Rows.pressWritesRow.domain false) (Rows.pressWritesSpec.post enc prog Tryz.f4 false true false false):=by
 refine returnsInHanded_of_change_sized (C:=checked) own started (by kernel_rfl) func4
  (ChangeSpec.witness6 (enc:=enc) (C:=checked) false ⟨#[],#[.agg #[ae aj 0,ae aj 0,ae aj 0,ai false,af none 0 0,af none 0 0,af none 0 0,ae aj 0,ai false],.agg #[ae aj 0,ae aj 0,ae aj 0,ai false],af none 0 0],[]⟩ 8 (by kernel_rfl) (by kernel_rfl) (by kernel_rfl) (by kernel_rfl)) ?_
 intro W base args ds gs before al hW _ av _
 have aS:(DataW.weightsEach prog (Tryz.f4.params.toList++Rows.pressWritesSpec.plain.varTypes prog) (ds++gs)).all (·<=reachBytes)=true:=av
 clear av
 have ad:∀(j:Nat) t v,Tryz.f4.params[j]?=some t->args[j]?=some v->Value.okWide prog W .any base t v:=al
 have aU:=hW
 obtain⟨p,q,hA0,hV,rfl,_,_⟩:=hW
 have hA:DataW.TrodAll enc prog W 0 (fun _=>true) true Tryz.f4.params.toList args.toList ds p:=hA0
 rw[params4]at hA ad aS
 obtain⟨v0,bj,d0,bk,p0,q0,aV,rfl,rfl,h0,r0⟩:=trodAll_cons hA
 obtain⟨v1,bl,d1,bm,p1,q1,rfl,rfl,rfl,h1,r1⟩:=trodAll_cons r0
 obtain⟨v2,bn,d2,bp,p2,q2,rfl,rfl,rfl,h2,r2⟩:=trodAll_cons r1
 obtain⟨rfl,rfl,rfl⟩:=trodAll_nil r2
 obtain rfl:args=#[v0,v1,v2]:=by cases args;simp_all
 obtain⟨rfl,rfl⟩:=trodVars_none hV
 have k0:=h0
 have aW:∀x∈p0,x.block<W.heap.size:=by obtain⟨m,hm⟩:=k0;exact DataW.trod_lt m _ _ _ hm
 obtain⟨P0,aX,aY,aZ,a1,a2,a3,rfl,a4⟩:=Pb (ad 0 32 v0 rfl rfl) h0
 have k1:=h1
 have a5:∀x∈p1,x.block<W.heap.size:=by obtain⟨m,hm⟩:=k1;exact DataW.trod_lt m _ _ _ hm
 obtain⟨s1,c1,m1,z1,rfl,a6,a7,a8⟩:=KO (ad 1 27 v1 rfl rfl) h1
 have k2:=h2
 have a9:∀x∈p2,x.block<W.heap.size:=by obtain⟨m,hm⟩:=k2;exact DataW.trod_lt m _ _ _ hm
 obtain⟨A2,bg,aT,rfl⟩:=okWide_slice underlying22 (ad 2 22 v2 rfl rfl)
 obtain⟨f2,bd⟩:=vm h2
 obtain⟨L2,rfl,bf⟩:=xh bd
 clear hA0 al
 refine(PN P0 aX aY aZ a1 a2 a3 s1 c1 m1 z1 A2 aT L2 W a4 (PL h0 (weigh aS (j:=0) rfl rfl)) a6 a7 a8 bf).mono fun e W' ⟨he,ql⟩=>?_
 subst he
 exact⟨_,rfl,_,_,_,[],_,[],aU,trodAll_mk1 (shut_bool underlying4 _),(trodAll_cons_mk (Below.trod QA (by kernel_rfl) (of_decide_eq_true (by kernel_rfl)) k0 ql aW) (trodAll_cons_mk (Below.trod QA (by kernel_rfl) (of_decide_eq_true (by kernel_rfl)) k1 ql a5) (trodAll_cons_mk (Below.trod QA (by kernel_rfl) (of_decide_eq_true (by kernel_rfl)) k2 ql a9) trodAll_mk0))),rfl,ql.frame _,fun h=>by cases h⟩
theorem writes12_law_holds:Rows.PressWritesSaid:=
 OpenClaim.holds_of_wide 4 Tryz.f4 rfl rfl rfl rfl rfl rfl rfl ⟨rfl,rfl,rfl,rfl,rfl⟩ rfl rfl rfl rfl rfl (by kernel_rfl) func4 (by kernel_rfl)
  (of_decide_eq_true (by kernel_rfl)) (by unfold Func.isWrapper;first|(rw[if_pos (by decide+kernel)];kernel_rfl)|(rw[if_neg (by decide+kernel)];exact⟨rfl,rfl⟩))
  (fun os started H enc _=>PO os started H enc)
#print axioms writes12_law_holds
end Go.Proofs.YtokpcpjnihinfaaGreat
