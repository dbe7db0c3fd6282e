/-
  The law PressAgain: for all bytes under way it returns true. No condition.
-/
import Derived.Test.YtokpcpjnihinfaaGreatpnaj
import Derived.Test.YtokpcpjnihinfaaGreatpnaw
set_option maxRecDepth 100000
set_option maxHeartbeats 16000000
namespace Go.Proofs.YtokpcpjnihinfaaGreat
open Go.RowKit Go.ChangeShapes Go.WideShapes Go.ChangeAt Go.Joins
theorem again12_law(p:Prs)(Ah:Option Addr)(hc:Nat)(Aw:Option Addr)(wc:Nat)(Ap:Option Addr)(pc:Nat)(w:World)(hp:PrsR w w.heap.size p Ah hc Aw wc Ap pc):
  Calls Tryz.prog 8 #[.agg (prsA p Ah hc Aw wc Ap pc)] w fun e w'=>e=.returned (.bool true)∧Below w.heap.size w w':=
 again12_walk pa_con pf_con pe_con check_pcon same_pcon p Ah hc Aw wc Ap pc w hp
theorem again12_law_lifted(os:Os)(started:os.Started)(H:Type)(enc:TypeId×Value→H):
  ReturnsInHanded {} Tryz.checked os 8 .any (Rows.pressAgainSpec.pre6 enc Tryz.prog Tryz.f8 Rows.pressAgainRow.domain false) (Rows.pressAgainSpec.post enc Tryz.prog Tryz.f8 false true false false):=by
 refine returnsInHanded_of_change (C:=Tryz.checked) own started (by kernel_rfl) Tryz.func8
  (ChangeSpec.witness6 (enc:=enc) (C:=Tryz.checked) false ⟨#[],#[.agg #[.int .i64 0,.int .i64 0,.int .i64 0,.bool false,.slice none 0 0,.slice none 0 0,.slice none 0 0,.int .i64 0,.bool false]],[]⟩ 8 (by kernel_rfl) (by kernel_rfl) (by kernel_rfl) (by kernel_rfl)) ?_
 intro W base args ds gs before hval0 hW _ _
 have hval:∀(j:Nat) t v,Tryz.f8.params[j]?=some t→args[j]?=some v→Value.okWide Tryz.prog W .any base t v:=hval0
 have hW':=hW
 obtain⟨p,q,hA0,hV,rfl,_,_⟩:=hW
 have hA:DataW.TrodAll enc Tryz.prog W 0 (fun _=>true) true Tryz.f8.params.toList args.toList ds p:=hA0
 rw[Tryz.params8]at hA hval
 obtain⟨v0,vs0,d0,ds0,p0,q0,hargs,rfl,rfl,h0,r0⟩:=trodAll_cons hA
 obtain⟨rfl,rfl,rfl⟩:=trodAll_nil r0
 obtain rfl:args=#[v0]:=by cases args;simp_all
 obtain⟨rfl,rfl⟩:=trodVars_none hV
 have k0:=h0
 have lt0:∀x∈p0,x.block<W.heap.size:=by obtain⟨m,hm⟩:=k0;exact DataW.trod_lt m _ _ _ hm
 obtain⟨P0,Ah0,hc0,Aw0,wc0,Ap0,pc0,rfl,hr0⟩:=open_prs (hval 0 32 v0 rfl rfl) h0
 clear hA0 hval0
 refine(again12_law P0 Ah0 hc0 Aw0 wc0 Ap0 pc0 W hr0).mono fun e W' ⟨he,bel⟩=>?_
 subst he
 exact⟨_,rfl,_,_,_,[],_,[],hW',trodAll_mk1 (shut_bool Tryz.underlying4 _),(trodAll_cons_mk (Below.trod laidOut (by kernel_rfl) (of_decide_eq_true (by kernel_rfl)) k0 bel lt0) trodAll_mk0),rfl,bel.frame _,fun h=>by cases h⟩
theorem again12_law_holds:Rows.PressAgainSaid:=
 OpenClaim.holds_of_wide 8 Tryz.f8 rfl rfl rfl rfl rfl rfl rfl ⟨rfl,rfl,rfl,rfl,rfl⟩ rfl rfl rfl rfl rfl (by kernel_rfl) Tryz.func8 (by kernel_rfl)
  (of_decide_eq_true (by kernel_rfl)) (by unfold Func.isWrapper;first|(rw[if_pos (by decide+kernel)];kernel_rfl)|(rw[if_neg (by decide+kernel)];exact⟨rfl,rfl⟩))
  (fun os started H enc _=>again12_law_lifted os started H enc)
#print axioms again12_law_holds
end Go.Proofs.YtokpcpjnihinfaaGreat
