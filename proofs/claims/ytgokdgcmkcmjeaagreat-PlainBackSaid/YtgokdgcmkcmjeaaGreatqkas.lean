/-
  The law PlainBack, the stage's theorem: all that goes out of bytes that are pressed is told as just these bytes, and ends where it ends. No condition.
-/
import Derived.Test.YtgokdgcmkcmjeaaGreatqkaa
import Derived.Test.YtgokdgcmkcmjeaaGreatqkar
set_option maxRecDepth 100000
set_option maxHeartbeats 16000000
namespace Go.Proofs.YtgokdgcmkcmjeaaGreat
open Value renaming int → ae, slice → af
open IntKind renaming i64 → ak
open _root_.Go.Proofs.Tryz
open Go.RowKit Go.ChangeShapes Go.WideShapes Go.ChangeAt Go.Joins
theorem UN(s h m:Int)(z:Bool)(A1:Option Addr)(c1:Nat)(b:List Nat)(A2:Option Addr)(c2:Nat)(more:List Nat)(ff:Int)(w:World)(_: -9223372036854775808<=s/\s<=9223372036854775807)(_: -9223372036854775808<=h/\h<=9223372036854775807)(_: -9223372036854775808<=m/\m<=9223372036854775807)(hb:fq w w.heap.size A1 b.length c1 (fc b))(hm:fq w w.heap.size A2 more.length c2 (fc more))(ad: -9223372036854775808<=ff)(ah:ff<=9223372036854775807):
  Calls prog 5 #[.agg #[ae ak s,ae ak h,ae ak m,.bool z],af A1 b.length c1,af A2 more.length c2,ae ak ff] w fun e w'=>e=.returned (.bool true)/\Below w.heap.size w w':=
 UM s h m z A1 c1 b A2 c2 more ff w hb hm ad ah
theorem UO(os:Os)(started:os.Started)(H:Type)(enc:TypeId×Value->H):
  ReturnsInHanded {} checked os 5 .any (Rows.plainBackSpec.pre6 enc prog Tryz.f5 Rows.plainBackRow.domain false) (Rows.plainBackSpec.post enc prog Tryz.f5 false true false false):=by
 refine returnsInHanded_of_change (C:=checked) own started (by kernel_rfl) func5
  (ChangeSpec.witness6 (enc:=enc) (C:=checked) false ⟨#[],#[.agg #[ae ak 0,ae ak 0,ae ak 0,.bool false],af none 0 0,af none 0 0,ae ak 0],[]⟩ 8 (by kernel_rfl) (by kernel_rfl) (by kernel_rfl) (by kernel_rfl)) ?_
 intro W base args ds gs before ah hW _ _
 have ad:∀(j:Nat) t v,Tryz.f5.params[j]?=some t->args[j]?=some v->Value.okWide prog W .any base t v:=ah
 have aU:=hW
 obtain⟨p,q,hA0,hV,rfl,_,_⟩:=hW
 have hA:DataW.TrodAll enc prog W 0 (fun _=>true) true Tryz.f5.params.toList args.toList ds p:=hA0
 rw[params5]at hA ad
 obtain⟨v0,bg,d0,bj,p0,q0,aV,rfl,rfl,h0,r0⟩:=trodAll_cons hA
 obtain⟨v1,bl,d1,bn,p1,q1,rfl,rfl,rfl,h1,r1⟩:=trodAll_cons r0
 obtain⟨v2,bq,d2,br,p2,q2,rfl,rfl,rfl,h2,r2⟩:=trodAll_cons r1
 obtain⟨v3,bt,d3,bu,p3,q3,rfl,rfl,rfl,h3,r3⟩:=trodAll_cons r2
 obtain⟨rfl,rfl,rfl⟩:=trodAll_nil r3
 obtain rfl:args=#[v0,v1,v2,v3]:=by cases args;simp_all
 obtain⟨rfl,rfl⟩:=trodVars_none hV
 have k0:=h0
 have aW:∀x∈p0,x.block<W.heap.size:=by obtain⟨m,hm⟩:=k0;exact DataW.trod_lt m _ _ _ hm
 obtain⟨s0,c0,m0,z0,rfl,aX,aY,aZ⟩:=Pj (ad 0 55 v0 rfl rfl) h0
 have k1:=h1
 have a1:∀x∈p1,x.block<W.heap.size:=by obtain⟨m,hm⟩:=k1;exact DataW.trod_lt m _ _ _ hm
 obtain⟨A1,a9,av,rfl⟩:=okWide_slice underlying22 (ad 1 22 v1 rfl rfl)
 obtain⟨f1,a2⟩:=DT h1
 obtain⟨L1,rfl,a4⟩:=J8 a2
 have k2:=h2
 have a5:∀x∈p2,x.block<W.heap.size:=by obtain⟨m,hm⟩:=k2;exact DataW.trod_lt m _ _ _ hm
 obtain⟨A2,bf,aT,rfl⟩:=okWide_slice underlying22 (ad 2 22 v2 rfl rfl)
 obtain⟨f2,a6⟩:=DT h2
 obtain⟨L2,rfl,a7⟩:=J8 a6
 have k3:=h3
 have a8:∀x∈p3,x.block<W.heap.size:=by obtain⟨m,hm⟩:=k3;exact DataW.trod_lt m _ _ _ hm
 obtain⟨a3,rfl,rfl,rfl,w3⟩:=open_int underlying3 (ad 3 3 v3 rfl rfl) h3
 have u3:=wH w3
 clear hA0 ah
 refine(UN s0 c0 m0 z0 A1 av L1 A2 aT L2 a3 W aX aY aZ a4 a7 u3.1 u3.2).mono fun e W' ⟨he,al⟩=>?_
 subst he
 exact⟨_,rfl,_,_,_,[],_,[],aU,trodAll_mk1 (shut_bool underlying4 _),(trodAll_cons_mk (Below.trod VK (by kernel_rfl) (of_decide_eq_true (by kernel_rfl)) k0 al aW) (trodAll_cons_mk (Below.trod VK (by kernel_rfl) (of_decide_eq_true (by kernel_rfl)) k1 al a1) (trodAll_cons_mk (Below.trod VK (by kernel_rfl) (of_decide_eq_true (by kernel_rfl)) k2 al a5) (trodAll_cons_mk (Below.trod VK (by kernel_rfl) (of_decide_eq_true (by kernel_rfl)) k3 al a8) trodAll_mk0)))),rfl,al.frame _,fun h=>by cases h⟩
theorem back13_all_holds:Rows.PlainBackSaid:=
 OpenClaim.holds_of_wide 5 Tryz.f5 rfl rfl rfl rfl rfl rfl rfl ⟨rfl,rfl,rfl,rfl,rfl⟩ rfl rfl rfl rfl rfl (by kernel_rfl) func5 (by kernel_rfl)
  (of_decide_eq_true (by kernel_rfl)) (by unfold Func.isWrapper;first|(rw[if_pos (by decide+kernel)];kernel_rfl)|(rw[if_neg (by decide+kernel)];exact⟨rfl,rfl⟩))
  (fun os started H enc _=>UO os started H enc)
#print axioms back13_all_holds
end Go.Proofs.YtgokdgcmkcmjeaaGreat
