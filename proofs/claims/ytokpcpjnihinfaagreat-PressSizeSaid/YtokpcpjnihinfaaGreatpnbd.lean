/-
  The law PressSize: for all styles and scripts it returns true. No condition.
-/
import Derived.Test.YtokpcpjnihinfaaGreatpnaw
import Derived.Test.YtokpcpjnihinfaaGreatpnbc
set_option maxRecDepth 100000
set_option maxHeartbeats 16000000
namespace Go.Proofs.YtokpcpjnihinfaaGreat
open Go.RowKit Go.ChangeShapes Go.WideShapes Go.ChangeAt Go.Joins
theorem size12_law(s h m:Int)(z:Bool)(A:Option Addr)(n c:Nat)(q:Nat→Opx)(w:World)
  (hus: -9223372036854775808≤s∧s≤9223372036854775807) (huh: -9223372036854775808≤h∧h≤9223372036854775807) (hum: -9223372036854775808≤m∧m≤9223372036854775807) (hr:OpR w w.heap.size A n c q):
  Calls Tryz.prog 7 #[.agg #[.int .i64 s,.int .i64 h,.int .i64 m,.bool z],.slice A n c] w fun e w'=>e=.returned (.bool true)∧Below w.heap.size w w':=
 size12_walk pa_con new_pcon pw_con pf_con pe_con s h m z A n c q w hus huh hum hr
theorem size12_law_lifted(os:Os)(started:os.Started)(H:Type)(enc:TypeId×Value→H):
  ReturnsInHanded {} Tryz.checked os 7 .any (Rows.pressSizeSpec.pre6 enc Tryz.prog Tryz.f7 Rows.pressSizeRow.domain false) (Rows.pressSizeSpec.post enc Tryz.prog Tryz.f7 false true false false):=by
 refine returnsInHanded_of_change (C:=Tryz.checked) own started (by kernel_rfl) Tryz.func7
  (ChangeSpec.witness6 (enc:=enc) (C:=Tryz.checked) false ⟨#[],#[.agg #[.int .i64 0,.int .i64 0,.int .i64 0,.bool false],.slice none 0 0],[]⟩ 8 (by kernel_rfl) (by kernel_rfl) (by kernel_rfl) (by kernel_rfl)) ?_
 intro W base args ds gs before hval0 hW _ _
 have hval:∀(j:Nat) t v,Tryz.f7.params[j]?=some t→args[j]?=some v→Value.okWide Tryz.prog W .any base t v:=hval0
 have hW':=hW
 obtain⟨p,q,hA0,hV,rfl,_,_⟩:=hW
 have hA:DataW.TrodAll enc Tryz.prog W 0 (fun _=>true) true Tryz.f7.params.toList args.toList ds p:=hA0
 rw[Tryz.params7]at hA hval
 obtain⟨v0,vs0,d0,ds0,p0,q0,hargs,rfl,rfl,h0,r0⟩:=trodAll_cons hA
 obtain⟨v1,vs1,d1,ds1,p1,q1,rfl,rfl,rfl,h1,r1⟩:=trodAll_cons r0
 obtain⟨rfl,rfl,rfl⟩:=trodAll_nil r1
 obtain rfl:args=#[v0,v1]:=by cases args;simp_all
 obtain⟨rfl,rfl⟩:=trodVars_none hV
 have k0:=h0
 have lt0:∀x∈p0,x.block<W.heap.size:=by obtain⟨m,hm⟩:=k0;exact DataW.trod_lt m _ _ _ hm
 obtain⟨s0,c0,m0,z0,rfl,us0,uc0,um0⟩:=open_sty (hval 0 27 v0 rfl rfl) h0
 have k1:=h1
 have lt1:∀x∈p1,x.block<W.heap.size:=by obtain⟨m,hm⟩:=k1;exact DataW.trod_lt m _ _ _ hm
 obtain⟨A1,len1,cap1,rfl⟩:=okWide_slice Tryz.underlying54 (hval 1 54 v1 rfl rfl)
 obtain⟨q1,hr1⟩:=open_ops h1
 clear hA0 hval0
 refine(size12_law s0 c0 m0 z0 A1 len1 cap1 q1 W us0 uc0 um0 hr1).mono fun e W' ⟨he,bel⟩=>?_
 subst he
 exact⟨_,rfl,_,_,_,[],_,[],hW',trodAll_mk1 (shut_bool Tryz.underlying4 _),(trodAll_cons_mk (Below.trod laidOut (by kernel_rfl) (of_decide_eq_true (by kernel_rfl)) k0 bel lt0) (trodAll_cons_mk (Below.trod laidOut (by kernel_rfl) (of_decide_eq_true (by kernel_rfl)) k1 bel lt1) trodAll_mk0)),rfl,bel.frame _,fun h=>by cases h⟩
theorem size12_law_holds:Rows.PressSizeSaid:=
 OpenClaim.holds_of_wide 7 Tryz.f7 rfl rfl rfl rfl rfl rfl rfl ⟨rfl,rfl,rfl,rfl,rfl⟩ rfl rfl rfl rfl rfl (by kernel_rfl) Tryz.func7 (by kernel_rfl)
  (of_decide_eq_true (by kernel_rfl)) (by unfold Func.isWrapper;first|(rw[if_pos (by decide+kernel)];kernel_rfl)|(rw[if_neg (by decide+kernel)];exact⟨rfl,rfl⟩))
  (fun os started H enc _=>size12_law_lifted os started H enc)
#print axioms size12_law_holds
end Go.Proofs.YtokpcpjnihinfaaGreat
