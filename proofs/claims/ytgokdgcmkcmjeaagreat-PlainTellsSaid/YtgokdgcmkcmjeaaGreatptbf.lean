/-
  The law PlainTells: what bytes tell, and what a beginning tells, is the document's. No condition.
-/
import Derived.Test.YtgokdgcmkcmjeaaGreatptbd
import Derived.Test.YtgokdgcmkcmjeaaGreatptbe
set_option maxRecDepth 100000
set_option maxHeartbeats 16000000
namespace Go.Proofs.YtgokdgcmkcmjeaaGreat
open Go.RowKit Go.ChangeShapes Go.WideShapes Go.ChangeAt Go.Joins
theorem rinfl_as{w:World}{A:Option Addr}{l c:Nat}{g:Nat→Nat}{a lim:Int}(hg:RdB w w.heap.size A l g){X:List Nat}{n p:Nat}{E:Int}(hr:inflR g l a lim=(X,p,E))(hn:n=X.length):
  Calls Tryz.prog 16 #[.slice A l c,.int .i64 a,.int .i64 lim] w fun e w'=>∃A' c',e=.returned (.tuple #[.slice A' n c',.int .i64 (p:Int),.int .i64 E])∧ByR w' w'.heap.size A' n c' (lst X)∧Below w.heap.size w w':=by
 refine(rinfl13_any w A l c g hg a lim).mono ?_
 rintro e w' h
 rw[hr]at h
 subst hn
 exact h
theorem rpref_as{w:World}{A:Option Addr}{l c:Nat}{g:Nat→Nat}{lim:Int}(hg:RdB w w.heap.size A l g){X:List Nat}{n:Nat}{E:Int}(hr:prefR g l lim=(X,E))(hn:n=X.length):
  Calls Tryz.prog 18 #[.slice A l c,.int .i64 lim] w fun e w'=>∃A' c',e=.returned (.tuple #[.slice A' n c',.int .i64 E])∧ByR w' w'.heap.size A' n c' (lst X)∧Below w.heap.size w w':=by
 refine(rpref13_any w A l c g hg lim).mono ?_
 rintro e w' h
 rw[hr]at h
 subst hn
 exact h
theorem tells13_main(A:Option Addr)(l c:Nat)(g:Nat→Nat)(a lim:Int)(w:World)(hr:ByR w w.heap.size A l c g)(ha1: -9223372036854775808≤a)(ha2:a≤9223372036854775807)(hp1: -9223372036854775808≤lim)(hp2:lim≤9223372036854775807)(hn1:¬400<l)
  (x y:Bool) (hx:decide (3000<lim)=x) (hy:decide (lim≤131072)=y) (hxy:(x&&y)=false):
  Calls Tryz.prog 4 #[.slice A l c,.int .i64 a,.int .i64 lim] w fun e w'=>e=.returned (.bool true)∧Below w.heap.size w w':=by
 have hd:decide (400<l)=false:=decF hn1
 obtain⟨A1,c1,w1,hrun,hown,hb1,_⟩:=run_twin w w.heap.size A l c g hr.1 (by omega) 22 hr.2.1
 have hby1:=ByR.of_own hown hr.1.1
 obtain⟨X,p,E,hR1⟩:∃X p E,inflR g l a lim=(X,p,E):=⟨_,_,_,rfl⟩
 obtain⟨Y,F,hR2⟩:∃X E,prefR g l lim=(X,E):=⟨_,_,rfl⟩
 obtain⟨n1,hX1⟩:∃n,n=X.length:=⟨_,rfl⟩
 obtain⟨n2,hX2⟩:∃n,n=Y.length:=⟨_,rfl⟩
 have HRUN:=Lib.hid hrun;have HB1:=Lib.hid hb1;have HY1:=Lib.hid hby1;have HRR:=Lib.hid ((hr.below hb1 (Nat.le_refl _)).more hb1.size)
 have HI1:=Lib.hid fun(u:World) (c:Nat) (B:Option Addr) (hu:RdB u u.heap.size B l g)=>infl_as (c:=c) hu ha1 ha2 (by omega) hp1 hp2 hR1 hX1
 have HI2:=Lib.hid fun(u:World) (hu:RdB u u.heap.size A l g)=>rinfl_as (c:=c) hu hR1 hX1
 have HI3:=Lib.hid fun(u:World) (c:Nat) (B:Option Addr) (hu:RdB u u.heap.size B l g)=>pref_as (c:=c) hu (by omega) hp1 hp2 hR2 hX2
 have HI4:=Lib.hid fun(u:World) (hu:RdB u u.heap.size A l g)=>rpref_as (c:=c) hu hR2 hX2
 clear hr hrun hown hb1 hby1 hR1 hR2 hX1 hX2 hn1
 have t0:∀m n:Nat,((m:Int)==(m:Int))=true:=fun m _=>by simp
 have zp:((p:Int)==(p:Int))=true:=by simp
 have ze:(E==E)=true:=by simp
 have zf:(F==F)=true:=by simp
 go_enter Tryz.func4,Tryz.ntmps4
 go_wp2_with fail
 refine(rgreat13_any w A l c).mono ?_
 rintro e w9 ⟨rfl,rfl⟩
 rw[hd]
 have HXX:=Lib.hid hx;have HYY:=Lib.hid hy
 cases x<;>cases y<;>first|(exact absurd hxy (by decide))|skip
 all_goals(
  clear hxy t0
  go_wp2_with (at_builtin;refine wpList_append_run rfl (.const (.slice none 0 0)) (.tmp 28) 22 rfl (.slice none 0 0) (.slice A l c) (.slice A1 l c1) w1 rfl rfl HRUN.out ?_)
  refine(HI1.out w1 c1 A1 HY1.out.1).mono ?_
  rintro e w2 ⟨A2,c2,rfl,hy2,hb⟩
  have HY2:=Lib.hid hy2
  have HB2:=Lib.hid (HB1.out.trans (hb.mono HB1.out.size));have HO2:=Lib.hid ((HY1.out.below hb (Nat.le_refl _)).more hb.size);have HR2:=Lib.hid ((HRR.out.below hb (Nat.le_refl _)).more hb.size)
  clear hy2 hb
  go_wp2_with fail
  refine(HI2.out w2 HR2.out.1).mono ?_
  rintro e w3 ⟨A3,c3,rfl,hy3,hb⟩
  have HY3:=Lib.hid hy3;have HZ2:=Lib.hid ((HY2.out.below hb (Nat.le_refl _)).more hb.size)
  have HB3:=Lib.hid (HB2.out.trans (hb.mono HB2.out.size));have HO3:=Lib.hid ((HO2.out.below hb (Nat.le_refl _)).more hb.size);have HR3:=Lib.hid ((HR2.out.below hb (Nat.le_refl _)).more hb.size)
  clear hy3 hb
  go_wp2_with fail
  refine(HI3.out w3 c1 A1 HO3.out.1).mono ?_
  rintro e w4 ⟨A4,c4,rfl,hy4,hb⟩
  have HY4:=Lib.hid hy4;have HZ3:=Lib.hid ((HZ2.out.below hb (Nat.le_refl _)).more hb.size);have HV3:=Lib.hid ((HY3.out.below hb (Nat.le_refl _)).more hb.size)
  have HB4:=Lib.hid (HB3.out.trans (hb.mono HB3.out.size));have HO4:=Lib.hid ((HO3.out.below hb (Nat.le_refl _)).more hb.size);have HR4:=Lib.hid ((HR3.out.below hb (Nat.le_refl _)).more hb.size)
  clear hy4 hb
  go_wp2_with fail
  refine(HI4.out w4 HR4.out.1).mono ?_
  rintro e w5 ⟨A5,c5,rfl,hy5,hb⟩
  have s1:=run_str (HZ3.out.1.below hb (Nat.le_refl _)) c2
  have s2:=run_str (HV3.out.1.below hb (Nat.le_refl _)) c3
  have s3:=run_str (HY4.out.1.below hb (Nat.le_refl _)) c4
  have s4:=run_str hy5.1 c5
  have s5:=run_str (HO4.out.1.below hb (Nat.le_refl _)) c1
  have s6:=run_str (HR4.out.1.below hb (Nat.le_refl _)) c
  have HB5:=Lib.hid (HB4.out.trans (hb.mono HB4.out.size))
  obtain⟨S1,hS1⟩:∃Z,Z=strB n1 (lst X):=⟨_,rfl⟩
  obtain⟨S2,hS2⟩:∃Z,Z=strB n2 (lst Y):=⟨_,rfl⟩
  obtain⟨S3,hS3⟩:∃Z,Z=strB l g:=⟨_,rfl⟩
  rw[←hS1]at s1 s2
  rw[←hS2]at s3 s4
  rw[←hS3]at s5 s6
  have y1:(S1.toList==S1.toList)=true:=by simp
  have y2:(S2.toList==S2.toList)=true:=by simp
  have y3:(S3.toList==S3.toList)=true:=by simp
  clear hy5 hb hS1 hS2 hS3
  go_wp2
  go_ret
  exact⟨rfl,HB5.out⟩)
theorem tells13_law(A:Option Addr)(l c:Nat)(g:Nat→Nat)(a lim:Int)(w:World)(hr:ByR w w.heap.size A l c g)(ha1: -9223372036854775808≤a)(ha2:a≤9223372036854775807)(hp1: -9223372036854775808≤lim)(hp2:lim≤9223372036854775807):
  Calls Tryz.prog 4 #[.slice A l c,.int .i64 a,.int .i64 lim] w fun e w'=>e=.returned (.bool true)∧Below w.heap.size w w':=by
 by_cases hn1:400<l
 ·have hd:decide (400<l)=true:=decT hn1
  clear hr hn1
  go_enter Tryz.func4,Tryz.ntmps4
  go_wp2_with fail
  refine(rgreat13_any w A l c).mono ?_
  rintro e w9 ⟨rfl,rfl⟩
  rw[hd]
  go_wp2
  go_ret
  exact⟨rfl,Below.refl _ _⟩
 by_cases hn2:3000<lim
 ·by_cases hn3:lim≤131072
  ·have hd:decide (400<l)=false:=decF hn1
   have hd2:decide (3000<lim)=true:=decT hn2
   have hd3:decide (lim≤131072)=true:=decT hn3
   clear hr hn1 hn2 hn3
   go_enter Tryz.func4,Tryz.ntmps4
   go_wp2_with fail
   refine(rgreat13_any w A l c).mono ?_
   rintro e w9 ⟨rfl,rfl⟩
   rw[hd]
   go_wp2
   go_ret
   exact⟨rfl,Below.refl _ _⟩
  ·exact tells13_main A l c g a lim w hr ha1 ha2 hp1 hp2 hn1 true false (decT hn2) (decF hn3) rfl
 ·exact tells13_main A l c g a lim w hr ha1 ha2 hp1 hp2 hn1 false (decide (lim≤131072)) (decF hn2) rfl rfl
theorem tells13_law_lifted(os:Os)(started:os.Started)(H:Type)(enc:TypeId×Value→H):
  ReturnsInHanded {} Tryz.checked os 4 .any (Rows.plainTellsSpec.pre6 enc Tryz.prog Tryz.f4 Rows.plainTellsRow.domain false) (Rows.plainTellsSpec.post enc Tryz.prog Tryz.f4 false true false false):=by
 refine returnsInHanded_of_change (C:=Tryz.checked) own started (by kernel_rfl) Tryz.func4
  (ChangeSpec.witness6 (enc:=enc) (C:=Tryz.checked) false ⟨#[],#[.slice none 0 0,.int .i64 0,.int .i64 0],[]⟩ 8 (by kernel_rfl) (by kernel_rfl) (by kernel_rfl) (by kernel_rfl)) ?_
 intro W base args ds gs before hval0 hW _ _
 have hval:∀(j:Nat) t v,Tryz.f4.params[j]?=some t→args[j]?=some v→Value.okWide Tryz.prog W .any base t v:=hval0
 have hW':=hW
 obtain⟨p,q,hA0,hV,rfl,_,_⟩:=hW
 have hA:DataW.TrodAll enc Tryz.prog W 0 (fun _=>true) true Tryz.f4.params.toList args.toList ds p:=hA0
 rw[Tryz.params4]at hA hval
 obtain⟨v0,vs0,d0,ds0,p0,q0,hargs,rfl,rfl,h0,r0⟩:=trodAll_cons hA
 obtain⟨v1,vs1,d1,ds1,p1,q1,rfl,rfl,rfl,h1,r1⟩:=trodAll_cons r0
 obtain⟨v2,vs2,d2,ds2,p2,q2,rfl,rfl,rfl,h2,r2⟩:=trodAll_cons r1
 obtain⟨rfl,rfl,rfl⟩:=trodAll_nil r2
 obtain rfl:args=#[v0,v1,v2]:=by cases args;simp_all
 obtain⟨rfl,rfl⟩:=trodVars_none hV
 have k0:=h0
 have lt0:∀x∈p0,x.block<W.heap.size:=by obtain⟨m,hm⟩:=k0;exact DataW.trod_lt m _ _ _ hm
 obtain⟨A0,len0,cap0,rfl⟩:=okWide_slice Tryz.underlying22 (hval 0 22 v0 rfl rfl)
 obtain⟨f0,hr0⟩:=open_byr h0
 have k1:=h1
 have lt1:∀x∈p1,x.block<W.heap.size:=by obtain⟨m,hm⟩:=k1;exact DataW.trod_lt m _ _ _ hm
 obtain⟨a1,rfl,rfl,rfl,w1⟩:=open_int Tryz.underlying3 (hval 1 3 v1 rfl rfl) h1
 have u1:=wf_i64_range w1
 have k2:=h2
 have lt2:∀x∈p2,x.block<W.heap.size:=by obtain⟨m,hm⟩:=k2;exact DataW.trod_lt m _ _ _ hm
 obtain⟨a2,rfl,rfl,rfl,w2⟩:=open_int Tryz.underlying3 (hval 2 3 v2 rfl rfl) h2
 have u2:=wf_i64_range w2
 clear hA0 hval0
 refine(tells13_law A0 len0 cap0 f0 a1 a2 W hr0 u1.1 u1.2 u2.1 u2.2).mono fun e W' ⟨he,bel⟩=>?_
 subst he
 exact⟨_,rfl,_,_,_,[],_,[],hW',trodAll_mk1 (shut_bool Tryz.underlying4 _),(trodAll_cons_mk (Below.trod laidOut (by kernel_rfl) (of_decide_eq_true (by kernel_rfl)) k0 bel lt0) (trodAll_cons_mk (Below.trod laidOut (by kernel_rfl) (of_decide_eq_true (by kernel_rfl)) k1 bel lt1) (trodAll_cons_mk (Below.trod laidOut (by kernel_rfl) (of_decide_eq_true (by kernel_rfl)) k2 bel lt2) trodAll_mk0))),rfl,bel.frame _,fun h=>by cases h⟩
theorem tells13_law_holds:Rows.PlainTellsSaid:=
 OpenClaim.holds_of_wide 4 Tryz.f4 rfl rfl rfl rfl rfl rfl rfl ⟨rfl,rfl,rfl,rfl,rfl⟩ rfl rfl rfl rfl rfl (by kernel_rfl) Tryz.func4 (by kernel_rfl)
  (of_decide_eq_true (by kernel_rfl)) (by unfold Func.isWrapper;first|(rw[if_pos (by decide+kernel)];kernel_rfl)|(rw[if_neg (by decide+kernel)];exact⟨rfl,rfl⟩))
  (fun os started H enc _=>tells13_law_lifted os started H enc)
#print axioms tells13_law_holds
end Go.Proofs.YtgokdgcmkcmjeaaGreat
