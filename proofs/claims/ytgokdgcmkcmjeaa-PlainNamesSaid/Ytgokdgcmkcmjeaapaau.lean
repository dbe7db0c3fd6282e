/-
  The law PlainLimit: never more is told than the limit; with a greater one the same. No condition.
-/
import Derived.Test.Ytgokdgcmkcmjeaapaat
set_option maxRecDepth 100000
set_option maxHeartbeats 16000000
namespace Go.Proofs.Ytgokdgcmkcmjeaa
open Go.RowKit Go.ChangeShapes Go.WideShapes Go.ChangeAt Go.Joins
theorem infl_as{w:World}{A:Option Addr}{l c:Nat}{g:Nat→Nat}{a lim:Int}(hg:RdB w w.heap.size A l g)(ha1: -9223372036854775808≤a)(ha2:a≤9223372036854775807)(hl:l≤1000000)(hl1: -9223372036854775808≤lim)(hl2:lim≤9223372036854775807){X:List Nat}{n p:Nat}{E:Int}(hr:inflR g l a lim=(X,p,E))(hn:n=X.length):
  Calls Try.prog 12 #[.slice A l c,.int .i64 a,.int .i64 lim] w fun e w'=>∃A' c',e=.returned (.tuple #[.slice A' n c',.int .i64 (p:Int),.int .i64 E])∧ByR w' w'.heap.size A' n c' (lst X)∧Below w.heap.size w w':=by
 refine(pinfl_any w A l c g hg a ha1 ha2 hl lim hl1 hl2).mono ?_
 rintro e w' h
 rw[hr]at h
 subst hn
 obtain⟨A',c',h1,h2,_,h3⟩:=h
 exact⟨A',c',h1,h2,h3⟩
theorem pref_as{w:World}{A:Option Addr}{l c:Nat}{g:Nat→Nat}{lim:Int}(hg:RdB w w.heap.size A l g)(hl:l≤1000000)(hl1: -9223372036854775808≤lim)(hl2:lim≤9223372036854775807){X:List Nat}{n:Nat}{E:Int}(hr:prefR g l lim=(X,E))(hn:n=X.length):
  Calls Try.prog 6 #[.slice A l c,.int .i64 lim] w fun e w'=>∃A' c',e=.returned (.tuple #[.slice A' n c',.int .i64 E])∧ByR w' w'.heap.size A' n c' (lst X)∧Below w.heap.size w w':=by
 refine(ppref_any w A l c g hg hl lim hl1 hl2).mono ?_
 rintro e w' h
 rw[hr]at h
 subst hn
 obtain⟨A',c',h1,h2,_,h3⟩:=h
 exact⟨A',c',h1,h2,h3⟩
theorem decT{p:Prop}[Decidable p](h:p):decide p=true:=by simp[h]
theorem decF{p:Prop}[Decidable p](h:¬p):decide p=false:=by simp[h]
theorem limit13_law(A:Option Addr)(l c:Nat)(g:Nat→Nat)(a lim lim':Int)(w:World)(hr:ByR w w.heap.size A l c g)(ha1: -9223372036854775808≤a)(ha2:a≤9223372036854775807)(hp1: -9223372036854775808≤lim)(hp2:lim≤9223372036854775807)(hq1: -9223372036854775808≤lim')(hq2:lim'≤9223372036854775807):
  Calls Try.prog 5 #[.slice A l c,.int .i64 a,.int .i64 lim,.int .i64 lim'] w fun e w'=>e=.returned (.bool true)∧Below w.heap.size w w':=by
 have HR:=Lib.hid hr
 clear hr
 by_cases hn1:400<l
 ·have hd:decide (400<l)=true:=decT hn1
  go_enter Try.func5,Try.ntmps5
  go_wp2_with fail
  refine(alive13_any w).mono ?_
  rintro e w1 ⟨rfl,hb⟩
  have HB1:=Lib.hid hb
  clear hb
  go_wp2_with fail
  refine(rgreat13_any w1 A l c).mono ?_
  rintro e w2 ⟨rfl,rfl⟩
  rw[hd]
  go_wp2
  go_ret
  exact⟨rfl,HB1.out⟩
 have hd:decide (400<l)=false:=decF hn1
 by_cases hn2:3000<lim
 ·have hd2:decide (3000<lim)=true:=decT hn2
  go_enter Try.func5,Try.ntmps5
  go_wp2_with fail
  refine(alive13_any w).mono ?_
  rintro e w1 ⟨rfl,hb⟩
  have HB1:=Lib.hid hb
  clear hb
  go_wp2_with fail
  refine(rgreat13_any w1 A l c).mono ?_
  rintro e w2 ⟨rfl,rfl⟩
  rw[hd]
  go_wp2
  go_ret
  exact⟨rfl,HB1.out⟩
 have hd2:decide (3000<lim)=false:=decF hn2
 by_cases hn3:3000<lim'
 ·have hd3:decide (3000<lim')=true:=decT hn3
  go_enter Try.func5,Try.ntmps5
  go_wp2_with fail
  refine(alive13_any w).mono ?_
  rintro e w1 ⟨rfl,hb⟩
  have HB1:=Lib.hid hb
  clear hb
  go_wp2_with fail
  refine(rgreat13_any w1 A l c).mono ?_
  rintro e w2 ⟨rfl,rfl⟩
  rw[hd]
  go_wp2
  go_ret
  exact⟨rfl,HB1.out⟩
 have hd3:decide (3000<lim')=false:=decF hn3
 obtain⟨X1,p1,E1,hR1⟩:∃X p E,inflR g l a lim=(X,p,E):=⟨_,_,_,rfl⟩
 obtain⟨X2,p2,E2,hR2⟩:∃X p E,inflR g l a lim'=(X,p,E):=⟨_,_,_,rfl⟩
 have hok:E1=0→(X1.length:Int)≤lim∧(lim'<(X1.length:Int)∨(X2,p2,E2)=(X1,p1,E1)):=fun h=>by
  have h1:=lim13_ok (g:=g) (L:=l) (a:=a) (lim:=lim) (lim':=lim') (by rw[hR1];exact h) (by omega)
  rw[hR1,hR2]at h1
  exact h1
 have her:E1≠0→X1=[]∧p1=0∧(E1=140→0≤lim'→lim'≤lim→E2=140):=fun h=>by
  have h1:=lim13_err (g:=g) (L:=l) (a:=a) (lim:=lim) (lim':=lim') (by rw[hR1];exact h) (by omega)
  rw[hR1,hR2]at h1
  exact h1
 obtain⟨n1,hX1⟩:∃n,n=X1.length:=⟨_,rfl⟩
 obtain⟨n2,hX2⟩:∃n,n=X2.length:=⟨_,rfl⟩
 have hi1:=fun(u:World) (hu:RdB u u.heap.size A l g)=>infl_as (c:=c) hu ha1 ha2 (by omega) hp1 hp2 hR1 hX1
 have hi2:=fun(u:World) (hu:RdB u u.heap.size A l g)=>infl_as (c:=c) hu ha1 ha2 (by omega) hq1 hq2 hR2 hX2
 have HI1:=Lib.hid hi1;have HI2:=Lib.hid hi2;have HOK:=Lib.hid hok;have HER:=Lib.hid her;have HX1:=Lib.hid hX1;have HX2:=Lib.hid hX2
 clear hi1 hi2 hok her hR1 hR2 hX1 hX2
 go_enter Try.func5,Try.ntmps5
 go_wp2_with fail
 refine(alive13_any w).mono ?_
 rintro e w1 ⟨rfl,hb⟩
 have HB1:=Lib.hid hb
 clear hb
 go_wp2_with fail
 refine(rgreat13_any w1 A l c).mono ?_
 rintro e w2 ⟨rfl,rfl⟩
 rw[hd]
 go_wp2_with fail
 refine(HI1.out w1 ((HR.out.below HB1.out (Nat.le_refl _)).more HB1.out.size).1).mono ?_
 rintro e w2 ⟨A1,c1,rfl,hy1,hb⟩
 have HY1:=Lib.hid hy1
 have HB2:=Lib.hid (HB1.out.trans (hb.mono HB1.out.size))
 clear hy1 hb
 go_wp2_with fail
 refine(HI2.out w2 ((HR.out.below HB2.out (Nat.le_refl _)).more HB2.out.size).1).mono ?_
 rintro e w3 ⟨A2,c2,rfl,hy2,hb⟩
 have HY2:=Lib.hid hy2
 have HY3:=Lib.hid ((HY1.out.below hb (Nat.le_refl _)).more hb.size)
 have HB3:=Lib.hid (HB2.out.trans (hb.mono HB2.out.size))
 clear hy2 hb HY1 HB2 HB1 HI1 HI2
 by_cases hE:E1=0
 ·subst hE
  have e0:((0:Int) !=0)=false:=by decide
  obtain⟨b1,b2⟩:=HOK.out rfl
  have hx1:=HX1.out
  have d1:decide ((n1:Int)≤lim)=true:=decT (by omega)
  by_cases hq:lim'<(n1:Int)
  ·have d2:decide (lim'<(n1:Int))=true:=decT hq
   clear b1 b2 hx1
   go_wp2
   go_ret
   exact⟨rfl,HB3.out⟩
  ·have d2:decide (lim'<(n1:Int))=false:=decF hq
   have b3:=b2.resolve_left (by omega)
   obtain⟨rfl,rfl,rfl⟩:X2=X1∧p2=p1∧E2=0:=by injection b3 with h1 h2;injection h2 with h2 h3;exact⟨h1,h2,h3⟩
   obtain rfl:n2=n1:=HX2.out.trans HX1.out.symm
   have s1:=run_str HY3.out.1 c1
   have s2:=run_str HY2.out.1 c2
   have z0:((0:Int)==0)=true:=by decide
   have zk:((p2:Int)==(p2:Int))=true:=by simp
   obtain⟨Z,hZ⟩:∃Z,Z=strB n2 (lst X2):=⟨_,rfl⟩
   rw[←hZ]at s1 s2
   have zz:(Z.toList==Z.toList)=true:=by simp
   clear b1 b2 b3 hx1 hZ
   go_wp2
   go_ret
   exact⟨rfl,HB3.out⟩
 ·have e0:(E1 !=0)=true:=by simpa using hE
  obtain⟨b1,b2,b3⟩:=HER.out hE
  obtain rfl:n1=0:=by rw[HX1.out,b1];rfl
  subst b2
  by_cases h140:E1=140
  ·subst h140
   have e1:((140:Int) !=140)=false:=by decide
   by_cases hg1:lim<lim'
   ·have d2:decide (lim<lim')=true:=decT hg1
    clear b1 b3
    go_wp2
    go_ret
    exact⟨rfl,HB3.out⟩
   ·have d2:decide (lim<lim')=false:=decF hg1
    by_cases hg2:lim'<0
    ·have d3:decide (lim'<0)=true:=decT hg2
     clear b1 b3
     go_wp2
     go_ret
     exact⟨rfl,HB3.out⟩
    ·have d3:decide (lim'<0)=false:=decF hg2
     obtain rfl:=b3 rfl (by omega) (by omega)
     have e2:((140:Int)==140)=true:=by decide
     clear b1 b3
     go_wp2
     go_ret
     exact⟨rfl,HB3.out⟩
  ·have e1:(E1 !=140)=true:=by simpa using h140
   clear b1 b3
   go_wp2
   go_ret
   exact⟨rfl,HB3.out⟩
theorem limit13_law_lifted(os:Os)(started:os.Started)(H:Type)(enc:TypeId×Value→H):
  ReturnsInHanded {} Try.checked os 5 .any (Rows.plainLimitSpec.pre6 enc Try.prog Try.f5 Rows.plainLimitRow.domain false) (Rows.plainLimitSpec.post enc Try.prog Try.f5 false true false false):=by
 refine returnsInHanded_of_change (C:=Try.checked) own started (by kernel_rfl) Try.func5
  (ChangeSpec.witness6 (enc:=enc) (C:=Try.checked) false ⟨#[],#[.slice none 0 0,.int .i64 0,.int .i64 0,.int .i64 0],[]⟩ 8 (by kernel_rfl) (by kernel_rfl) (by kernel_rfl) (by kernel_rfl)) ?_
 intro W base args ds gs before hval0 hW _ _
 have hval:∀(j:Nat) t v,Try.f5.params[j]?=some t→args[j]?=some v→Value.okWide Try.prog W .any base t v:=hval0
 have hW':=hW
 obtain⟨p,q,hA0,hV,rfl,_,_⟩:=hW
 have hA:DataW.TrodAll enc Try.prog W 0 (fun _=>true) true Try.f5.params.toList args.toList ds p:=hA0
 rw[Try.params5]at hA hval
 obtain⟨v0,vs0,d0,ds0,p0,q0,hargs,rfl,rfl,h0,r0⟩:=trodAll_cons hA
 obtain⟨v1,vs1,d1,ds1,p1,q1,rfl,rfl,rfl,h1,r1⟩:=trodAll_cons r0
 obtain⟨v2,vs2,d2,ds2,p2,q2,rfl,rfl,rfl,h2,r2⟩:=trodAll_cons r1
 obtain⟨v3,vs3,d3,ds3,p3,q3,rfl,rfl,rfl,h3,r3⟩:=trodAll_cons r2
 obtain⟨rfl,rfl,rfl⟩:=trodAll_nil r3
 obtain rfl:args=#[v0,v1,v2,v3]:=by cases args;simp_all
 obtain⟨rfl,rfl⟩:=trodVars_none hV
 have k0:=h0
 have lt0:∀x∈p0,x.block<W.heap.size:=by obtain⟨m,hm⟩:=k0;exact DataW.trod_lt m _ _ _ hm
 obtain⟨A0,len0,cap0,rfl⟩:=okWide_slice Try.underlying22 (hval 0 22 v0 rfl rfl)
 obtain⟨f0,hr0⟩:=open_byr h0
 have k1:=h1
 have lt1:∀x∈p1,x.block<W.heap.size:=by obtain⟨m,hm⟩:=k1;exact DataW.trod_lt m _ _ _ hm
 obtain⟨a1,rfl,rfl,rfl,w1⟩:=open_int Try.underlying3 (hval 1 3 v1 rfl rfl) h1
 have u1:=wf_i64_range w1
 have k2:=h2
 have lt2:∀x∈p2,x.block<W.heap.size:=by obtain⟨m,hm⟩:=k2;exact DataW.trod_lt m _ _ _ hm
 obtain⟨a2,rfl,rfl,rfl,w2⟩:=open_int Try.underlying3 (hval 2 3 v2 rfl rfl) h2
 have u2:=wf_i64_range w2
 have k3:=h3
 have lt3:∀x∈p3,x.block<W.heap.size:=by obtain⟨m,hm⟩:=k3;exact DataW.trod_lt m _ _ _ hm
 obtain⟨a3,rfl,rfl,rfl,w3⟩:=open_int Try.underlying3 (hval 3 3 v3 rfl rfl) h3
 have u3:=wf_i64_range w3
 clear hA0 hval0
 refine(limit13_law A0 len0 cap0 f0 a1 a2 a3 W hr0 u1.1 u1.2 u2.1 u2.2 u3.1 u3.2).mono fun e W' ⟨he,bel⟩=>?_
 subst he
 exact⟨_,rfl,_,_,_,[],_,[],hW',trodAll_mk1 (shut_bool Try.underlying4 _),(trodAll_cons_mk (Below.trod laidOut (by kernel_rfl) (of_decide_eq_true (by kernel_rfl)) k0 bel lt0) (trodAll_cons_mk (Below.trod laidOut (by kernel_rfl) (of_decide_eq_true (by kernel_rfl)) k1 bel lt1) (trodAll_cons_mk (Below.trod laidOut (by kernel_rfl) (of_decide_eq_true (by kernel_rfl)) k2 bel lt2) (trodAll_cons_mk (Below.trod laidOut (by kernel_rfl) (of_decide_eq_true (by kernel_rfl)) k3 bel lt3) trodAll_mk0)))),rfl,bel.frame _,fun h=>by cases h⟩
theorem limit13_law_holds:Rows.PlainLimitSaid:=
 OpenClaim.holds_of_wide 5 Try.f5 rfl rfl rfl rfl rfl rfl rfl ⟨rfl,rfl,rfl,rfl,rfl⟩ rfl rfl rfl rfl rfl (by kernel_rfl) Try.func5 (by kernel_rfl)
  (of_decide_eq_true (by kernel_rfl)) (by unfold Func.isWrapper;first|(rw[if_pos (by decide+kernel)];kernel_rfl)|(rw[if_neg (by decide+kernel)];exact⟨rfl,rfl⟩))
  (fun os started H enc _=>limit13_law_lifted os started H enc)
#print axioms limit13_law_holds
end Go.Proofs.Ytgokdgcmkcmjeaa
