/-
  The law PressEnds: for all bytes under way it returns true. No condition: how long the pen can be comes from the form's own reach.
-/
import Derived.Test.YtokpcpjnihinfaaGreatqeaa
import Derived.Test.YtokpcpjnihinfaaGreatqeaf
import Derived.Test.YtokpcpjnihinfaaGreatqeal
set_option maxRecDepth 100000
set_option maxHeartbeats 16000000
namespace Go.Proofs.YtokpcpjnihinfaaGreat
open _root_.Go.Proofs.Tryz
open Go.RowKit Go.ChangeShapes Go.WideShapes Go.ChangeAt Go.Joins
theorem Po(p:gF)(Ah:Option Addr)(hc:Nat)(Aw:Option Addr)(wc:Nat)(Ap:Option Addr)(pc:Nat)(w:World)(hp:gU w w.heap.size p Ah hc Aw wc Ap pc)(ad:p.gm.length<=140737488355328):
  Calls prog 5 #[.agg (gI p Ah hc Aw wc Ap pc)] w fun e w'=>e=.returned (.bool true)/\Below w.heap.size w w':=
 KV Pf Pg p Ah hc Aw wc Ap pc w hp ad
theorem Pp(os:Os)(started:os.Started)(H:Type)(enc:TypeId×Value->H):
  ReturnsInHanded {} checked os 5 .any (Rows.pressEndsSpec.pre6 enc prog Tryz.f5 Rows.pressEndsRow.domain false) (Rows.pressEndsSpec.post enc prog Tryz.f5 false true false false):=by
 refine returnsInHanded_of_change_sized (C:=checked) own started (by kernel_rfl) func5
  (ChangeSpec.witness6 (enc:=enc) (C:=checked) false ⟨#[],#[.agg #[.int .i64 0,.int .i64 0,.int .i64 0,.bool false,.slice none 0 0,.slice none 0 0,.slice none 0 0,.int .i64 0,.bool false]],[]⟩ 8 (by kernel_rfl) (by kernel_rfl) (by kernel_rfl) (by kernel_rfl)) ?_
 intro W base args ds gs before ad hW _ al _
 have aS:(DataW.weightsEach prog (Tryz.f5.params.toList++Rows.pressEndsSpec.plain.varTypes prog) (ds++gs)).all (·<=reachBytes)=true:=al
 clear al
 have av:∀(j:Nat) t v,Tryz.f5.params[j]?=some t->args[j]?=some v->Value.okWide prog W .any base t v:=ad
 have aU:=hW
 obtain⟨p,q,hA0,hV,rfl,_,_⟩:=hW
 have hA:DataW.TrodAll enc prog W 0 (fun _=>true) true Tryz.f5.params.toList args.toList ds p:=hA0
 rw[params5]at hA av aS
 obtain⟨v0,a5,d0,a6,p0,q0,aV,rfl,rfl,h0,r0⟩:=trodAll_cons hA
 obtain⟨rfl,rfl,rfl⟩:=trodAll_nil r0
 obtain rfl:args=#[v0]:=by cases args;simp_all
 obtain⟨rfl,rfl⟩:=trodVars_none hV
 have k0:=h0
 have aW:∀x∈p0,x.block<W.heap.size:=by obtain⟨m,hm⟩:=k0;exact DataW.trod_lt m _ _ _ hm
 obtain⟨P0,aX,aY,aZ,a1,a2,a3,rfl,a4⟩:=Pl (av 0 32 v0 rfl rfl) h0
 clear hA0 ad
 refine(Po P0 aX aY aZ a1 a2 a3 W a4 (Pn h0 (weigh aS (j:=0) rfl rfl))).mono fun e W' ⟨he,aT⟩=>?_
 subst he
 exact⟨_,rfl,_,_,_,[],_,[],aU,trodAll_mk1 (shut_bool underlying4 _),(trodAll_cons_mk (Below.trod Qg (by kernel_rfl) (of_decide_eq_true (by kernel_rfl)) k0 aT aW) trodAll_mk0),rfl,aT.frame _,fun h=>by cases h⟩
theorem ends12_law_holds:Rows.PressEndsSaid:=
 OpenClaim.holds_of_wide 5 Tryz.f5 rfl rfl rfl rfl rfl rfl rfl ⟨rfl,rfl,rfl,rfl,rfl⟩ rfl rfl rfl rfl rfl (by kernel_rfl) func5 (by kernel_rfl)
  (of_decide_eq_true (by kernel_rfl)) (by unfold Func.isWrapper;first|(rw[if_pos (by decide+kernel)];kernel_rfl)|(rw[if_neg (by decide+kernel)];exact⟨rfl,rfl⟩))
  (fun os started H enc _=>Pp os started H enc)
#print axioms ends12_law_holds
end Go.Proofs.YtokpcpjnihinfaaGreat
