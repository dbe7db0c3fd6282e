/-
  The law PlainBegins: a beginning of bytes tells a beginning. No condition.
-/
import Derived.BigQuiet
import Derived.Test.Ytgokdgcmkcmjeaapaau
set_option maxRecDepth 100000
set_option maxHeartbeats 16000000
namespace Go.Proofs.Ytgokdgcmkcmjeaa
open Go.RowKit Go.ChangeShapes Go.WideShapes Go.ChangeAt Go.Joins
theorem rd_fst13{w:World}{B n:Nat}{A:Option Addr}{f:Nat→Nat}(h:RdB w B A n f){m:Nat}(hm:m≤n):RdB w B A m f:=⟨h.1,fun hn=>by
 obtain⟨b,o,e,hb,hc⟩:=h.2 (by omega)
 exact⟨b,o,e,hb,fun j hj=>hc j (by omega)⟩⟩
theorem lst_pre{Y X:List Nat}(h:Y<+:X):∀j,j<Y.length→lst X j=lst Y j:=by
 obtain⟨t,rfl⟩:=h
 intro j hj
 unfold lst
 rw[List.getD_eq_getElem?_getD,List.getD_eq_getElem?_getD,List.getElem?_append_left hj]
theorem strB_cg{n:Nat}{f g:Nat→Nat}(h:∀j,j<n→f j=g j):strB n f=strB n g:=by
 unfold strB
 congr 1
 refine List.map_congr_left fun j hj=>?_
 rw[h j (List.mem_range.1 hj)]
theorem begins13_law(A:Option Addr)(l c:Nat)(g:Nat→Nat)(n lim:Int)(w:World)(hr:ByR w w.heap.size A l c g)(ha1: -9223372036854775808≤n)(ha2:n≤9223372036854775807)(hp1: -9223372036854775808≤lim)(hp2:lim≤9223372036854775807):
  Calls Try.prog 4 #[.slice A l c,.int .i64 n,.int .i64 lim] w fun e w'=>e=.returned (.bool true)∧Below w.heap.size w w':=by
 have HR:=Lib.hid hr
 clear hr
 by_cases hn1:400<l
 ·have hd:decide (400<l)=true:=decT hn1
  go_enter Try.func4,Try.ntmps4
  go_wp2_with fail
  refine(alive13_any w).mono ?_
  rintro e w1 ⟨rfl,hb⟩
  have HB1:=Lib.hid hb
  clear hb
  go_wp2_with fail
  refine(rgreat13_any w1 A l c).mono ?_
  rintro e w2 ⟨rfl,rfl⟩
  rw[hd]
  go_wp2
  go_ret
  exact⟨rfl,HB1.out⟩
 have hd:decide (400<l)=false:=decF hn1
 by_cases hn2:n<0
 ·have hd2:decide (n<0)=true:=decT hn2
  go_enter Try.func4,Try.ntmps4
  go_wp2_with fail
  refine(alive13_any w).mono ?_
  rintro e w1 ⟨rfl,hb⟩
  have HB1:=Lib.hid hb
  clear hb
  go_wp2_with fail
  refine(rgreat13_any w1 A l c).mono ?_
  rintro e w2 ⟨rfl,rfl⟩
  rw[hd]
  go_wp2
  go_ret
  exact⟨rfl,HB1.out⟩
 obtain⟨m,rfl⟩:=Int.eq_ofNat_of_zero_le (show 0≤n by omega)
 have hd2:decide ((m:Int)<0)=false:=decF hn2
 by_cases hn3:l<m
 ·have hd3:decide ((l:Int)<(m:Int))=true:=decT (by omega)
  go_enter Try.func4,Try.ntmps4
  go_wp2_with fail
  refine(alive13_any w).mono ?_
  rintro e w1 ⟨rfl,hb⟩
  have HB1:=Lib.hid hb
  clear hb
  go_wp2_with fail
  refine(rgreat13_any w1 A l c).mono ?_
  rintro e w2 ⟨rfl,rfl⟩
  rw[hd]
  go_wp2
  go_ret
  exact⟨rfl,HB1.out⟩
 have hd3:decide ((l:Int)<(m:Int))=false:=decF (by omega)
 by_cases hn4:3000<lim
 ·have hd4:decide (3000<lim)=true:=decT hn4
  go_enter Try.func4,Try.ntmps4
  go_wp2_with fail
  refine(alive13_any w).mono ?_
  rintro e w1 ⟨rfl,hb⟩
  have HB1:=Lib.hid hb
  clear hb
  go_wp2_with fail
  refine(rgreat13_any w1 A l c).mono ?_
  rintro e w2 ⟨rfl,rfl⟩
  rw[hd]
  go_wp2
  go_ret
  exact⟨rfl,HB1.out⟩
 have hd4:decide (3000<lim)=false:=decF hn4
 obtain⟨X,E,hRX⟩:∃X E,prefR g l lim=(X,E):=⟨_,_,rfl⟩
 obtain⟨Y,F,hRY⟩:∃X E,prefR g m lim=(X,E):=⟨_,_,rfl⟩
 obtain⟨Z,p3,H,hRZ⟩:∃X p E,inflR g m 0 lim=(X,p,E):=⟨_,_,_,rfl⟩
 obtain⟨b1,b2,b3⟩:=begins13 (g:=g) (L:=l) (n:=m) (lim:=lim) (by omega) (by omega)
 rw[hRX,hRY]at b1 b3
 rw[hRZ,hRY]at b2
 rw[hRZ]at b3
 dsimp only at b1 b2 b3
 obtain⟨nx,hX⟩:∃n,n=X.length:=⟨_,rfl⟩
 obtain⟨ny,hY⟩:∃n,n=Y.length:=⟨_,rfl⟩
 obtain⟨nz,hZ⟩:∃n,n=Z.length:=⟨_,rfl⟩
 have hcap:=HR.out.2.2.1
 have hi1:=fun(u:World) (hu:RdB u u.heap.size A l g)=>pref_as (c:=c) hu (by omega) hp1 hp2 hRX hX
 have hi2:=fun(u:World) (hu:RdB u u.heap.size A l g)=>pref_as (c:=c) (rd_fst13 hu (show m≤l by omega)) (by omega) hp1 hp2 hRY hY
 have hi3:=fun(u:World) (hu:RdB u u.heap.size A l g)=>infl_as (a:=0) (c:=c) (rd_fst13 hu (show m≤l by omega)) (by decide) (by decide) (by omega) hp1 hp2 hRZ hZ
 have HI1:=Lib.hid hi1;have HI2:=Lib.hid hi2;have HI3:=Lib.hid hi3;have P1:=Lib.hid b1;have P2:=Lib.hid b2;have P3:=Lib.hid b3;have HX:=Lib.hid hX;have HY:=Lib.hid hY;have HZ:=Lib.hid hZ
 have hmc:(m:Int)≤(c:Int):=by omega
 clear hi1 hi2 hi3 b1 b2 b3 hRX hRY hRZ hX hY hZ ha1 ha2 hp1 hp2
 go_enter Try.func4,Try.ntmps4
 go_wp2_with fail
 refine(alive13_any w).mono ?_
 rintro e w1 ⟨rfl,hb⟩
 have HB1:=Lib.hid hb
 clear hb
 go_wp2_with fail
 refine(rgreat13_any w1 A l c).mono ?_
 rintro e w2 ⟨rfl,rfl⟩
 rw[hd]
 go_wp2_with fail
 refine(HI1.out w1 ((HR.out.below HB1.out (Nat.le_refl _)).more HB1.out.size).1).mono ?_
 rintro e w2 ⟨A1,c1,rfl,hy1,hb⟩
 have HY1:=Lib.hid hy1
 have HB2:=Lib.hid (HB1.out.trans (hb.mono HB1.out.size))
 clear hy1 hb HI1 HB1
 go_wp2_with fail
 refine(HI2.out w2 ((HR.out.below HB2.out (Nat.le_refl _)).more HB2.out.size).1).mono ?_
 rintro e w3 ⟨A2,c2,rfl,hy2,hb⟩
 have HY2:=Lib.hid hy2
 have HY3:=Lib.hid ((HY1.out.below hb (Nat.le_refl _)).more hb.size)
 have HB3:=Lib.hid (HB2.out.trans (hb.mono HB2.out.size))
 clear hy2 hb HI2 HB2 HY1
 by_cases hE:E=0
 ·subst hE
  obtain⟨f0,hpre⟩:=P1.out rfl
  subst f0
  have e0:((0:Int)==0)=true:=by decide
  have e1:((0:Int) !=0)=false:=by decide
  have hle:=hpre.length_le
  rw[←HX.out,←HY.out]at hle
  have d1:decide ((nx:Int)<(ny:Int))=false:=decF (by omega)
  have d1':decide (nx<ny)=false:=decF (by omega)
  have hc1:=HY3.out.2.2.1
  have hcc:(ny:Int)≤(c1:Int):=by omega
  obtain⟨S,hS⟩:∃Z,Z=strB ny (lst Y):=⟨_,rfl⟩
  have hSX:strB ny (lst X)=S:=by rw[hS];exact strB_cg (fun j hj=>lst_pre hpre j (by rw[←HY.out];exact hj))
  have s1:∀n,(convert 22 9 (.slice A1 ny c1)).run Try.prog (w3.drewN n)=.ok (.string S) (w3.drewN n):=fun n=>by
   have h:=run_str (rd_fst13 (HY3.out.below (Drw.below ⟨n,rfl⟩ (Below.refl _ _)) (Nat.le_refl _)).1 hle) c1
   rw[hSX]at h;exact h
  have s2:∀n,(convert 22 9 (.slice A2 ny c2)).run Try.prog (w3.drewN n)=.ok (.string S) (w3.drewN n):=fun n=>by
   have h:=run_str (HY2.out.below (Drw.below ⟨n,rfl⟩ (Below.refl _ _)) (Nat.le_refl _)).1 c2
   rw[←hS]at h;exact h
  have zz:(S.toList !=S.toList)=false:=by simp
  have HS:=Lib.hid hS;have HPRE:=Lib.hid hpre;have HLE:=Lib.hid hle
  clear hpre hle hS hc1 hSX
  go_wp2_with fail
  go_quiet (fail)
  go_wp2_with fail
  clear s1 s2 zz d1 d1' hcc
  obtain⟨V,hV⟩:∃V,V=w3.drewN nq:=⟨_,rfl⟩
  have hbV:Below w3.heap.size w3 V:=by rw[hV];exact Drw.below ⟨nq,rfl⟩ (Below.refl _ _)
  rw[←hV]
  have HY5:=Lib.hid ((HY2.out.below hbV (Nat.le_refl _)).more hbV.size)
  have HX5:=Lib.hid ((HY3.out.below hbV (Nat.le_refl _)).more hbV.size)
  have HBV:=Lib.hid (HB3.out.trans (hbV.mono HB3.out.size))
  clear hV hbV HB3 HY2 HY3
  refine(HI3.out V ((HR.out.below HBV.out (Nat.le_refl _)).more HBV.out.size).1).mono ?_
  rintro e w4 ⟨A3,c3,rfl,hy3,hb⟩
  have HZ3:=Lib.hid hy3
  have HY4:=Lib.hid ((HY5.out.below hb (Nat.le_refl _)).more hb.size)
  have HX4:=Lib.hid ((HX5.out.below hb (Nat.le_refl _)).more hb.size)
  have HB4:=Lib.hid (HBV.out.trans (hb.mono HBV.out.size))
  clear hy3 hb HI3 HBV HY5 HX5
  by_cases hH:H=0
  ·subst hH
   obtain⟨-,-,q3,q4⟩:=P3.out rfl
   subst q3
   subst q4
   obtain rfl:nz=nx:=HZ.out.trans HX.out.symm
   obtain rfl:ny=nz:=HY.out.trans HZ.out.symm
   have s1:=run_str HX4.out.1 c1
   have s2:=run_str HY4.out.1 c2
   have s3:=run_str HZ3.out.1 c3
   rw[←HS.out]at s1 s2 s3
   have zz:(S.toList==S.toList)=true:=by simp
   go_wp2
   go_ret
   exact⟨rfl,HB4.out⟩
  ·have e2:(H !=0)=true:=by simpa using hH
   obtain rfl:=(P2.out hH).2 (by first|rfl|trivial)
   have e3:((10:Int)==10)=true:=by decide
   have e4:(true==true)=true:=rfl
   go_wp2
   go_ret
   exact⟨rfl,HB4.out⟩
 ·have e0:(E==0)=false:=by simpa using hE
  go_wp2_with fail
  go_quiet (fail)
  go_wp2_with fail
  obtain⟨V,hV⟩:∃V,V=w3.drewN nq:=⟨_,rfl⟩
  have hbV:Below w3.heap.size w3 V:=by rw[hV];exact Drw.below ⟨nq,rfl⟩ (Below.refl _ _)
  rw[←hV]
  have HY5:=Lib.hid ((HY2.out.below hbV (Nat.le_refl _)).more hbV.size)
  have HX5:=Lib.hid ((HY3.out.below hbV (Nat.le_refl _)).more hbV.size)
  have HBV:=Lib.hid (HB3.out.trans (hbV.mono HB3.out.size))
  clear hV hbV HB3 HY2 HY3
  refine(HI3.out V ((HR.out.below HBV.out (Nat.le_refl _)).more HBV.out.size).1).mono ?_
  rintro e w4 ⟨A3,c3,rfl,hy3,hb⟩
  have HB4:=Lib.hid (HBV.out.trans (hb.mono HBV.out.size))
  clear hy3 hb HI3 HBV HY5 HX5
  have hH:H≠0:=fun h=>hE (P3.out h).2.1
  have e2:(H !=0)=true:=by simpa using hH
  by_cases hF:F=0
  ·obtain rfl:=(P2.out hH).2 hF
   subst hF
   have e3:((10:Int)==10)=true:=by decide
   have e4:((0:Int)==0)=true:=by decide
   go_wp2
   go_ret
   exact⟨rfl,HB4.out⟩
  ·have e3:(H==10)=false:=by
    have:H≠10:=fun h=>hF ((P2.out hH).1 h)
    simpa using this
   have e4:(F==0)=false:=by simpa using hF
   go_wp2
   go_ret
   exact⟨rfl,HB4.out⟩
theorem begins13_law_lifted(os:Os)(started:os.Started)(H:Type)(enc:TypeId×Value→H):
  ReturnsInHanded {} Try.checked os 4 .any (Rows.plainBeginsSpec.pre6 enc Try.prog Try.f4 Rows.plainBeginsRow.domain false) (Rows.plainBeginsSpec.post enc Try.prog Try.f4 false true false false):=by
 refine returnsInHanded_of_change (C:=Try.checked) own started (by kernel_rfl) Try.func4
  (ChangeSpec.witness6 (enc:=enc) (C:=Try.checked) false ⟨#[],#[.slice none 0 0,.int .i64 0,.int .i64 0],[]⟩ 8 (by kernel_rfl) (by kernel_rfl) (by kernel_rfl) (by kernel_rfl)) ?_
 intro W base args ds gs before hval0 hW _ _
 have hval:∀(j:Nat) t v,Try.f4.params[j]?=some t→args[j]?=some v→Value.okWide Try.prog W .any base t v:=hval0
 have hW':=hW
 obtain⟨p,q,hA0,hV,rfl,_,_⟩:=hW
 have hA:DataW.TrodAll enc Try.prog W 0 (fun _=>true) true Try.f4.params.toList args.toList ds p:=hA0
 rw[Try.params4]at hA hval
 obtain⟨v0,vs0,d0,ds0,p0,q0,hargs,rfl,rfl,h0,r0⟩:=trodAll_cons hA
 obtain⟨v1,vs1,d1,ds1,p1,q1,rfl,rfl,rfl,h1,r1⟩:=trodAll_cons r0
 obtain⟨v2,vs2,d2,ds2,p2,q2,rfl,rfl,rfl,h2,r2⟩:=trodAll_cons r1
 obtain⟨rfl,rfl,rfl⟩:=trodAll_nil r2
 obtain rfl:args=#[v0,v1,v2]:=by cases args;simp_all
 obtain⟨rfl,rfl⟩:=trodVars_none hV
 have k0:=h0
 have lt0:∀x∈p0,x.block<W.heap.size:=by obtain⟨m,hm⟩:=k0;exact DataW.trod_lt m _ _ _ hm
 obtain⟨A0,len0,cap0,rfl⟩:=okWide_slice Try.underlying22 (hval 0 22 v0 rfl rfl)
 obtain⟨f0,hr0⟩:=open_byr h0
 have k1:=h1
 have lt1:∀x∈p1,x.block<W.heap.size:=by obtain⟨m,hm⟩:=k1;exact DataW.trod_lt m _ _ _ hm
 obtain⟨a1,rfl,rfl,rfl,w1⟩:=open_int Try.underlying3 (hval 1 3 v1 rfl rfl) h1
 have u1:=wf_i64_range w1
 have k2:=h2
 have lt2:∀x∈p2,x.block<W.heap.size:=by obtain⟨m,hm⟩:=k2;exact DataW.trod_lt m _ _ _ hm
 obtain⟨a2,rfl,rfl,rfl,w2⟩:=open_int Try.underlying3 (hval 2 3 v2 rfl rfl) h2
 have u2:=wf_i64_range w2
 clear hA0 hval0
 refine(begins13_law A0 len0 cap0 f0 a1 a2 W hr0 u1.1 u1.2 u2.1 u2.2).mono fun e W' ⟨he,bel⟩=>?_
 subst he
 exact⟨_,rfl,_,_,_,[],_,[],hW',trodAll_mk1 (shut_bool Try.underlying4 _),(trodAll_cons_mk (Below.trod laidOut (by kernel_rfl) (of_decide_eq_true (by kernel_rfl)) k0 bel lt0) (trodAll_cons_mk (Below.trod laidOut (by kernel_rfl) (of_decide_eq_true (by kernel_rfl)) k1 bel lt1) (trodAll_cons_mk (Below.trod laidOut (by kernel_rfl) (of_decide_eq_true (by kernel_rfl)) k2 bel lt2) trodAll_mk0))),rfl,bel.frame _,fun h=>by cases h⟩
theorem begins13_law_holds:Rows.PlainBeginsSaid:=
 OpenClaim.holds_of_wide 4 Try.f4 rfl rfl rfl rfl rfl rfl rfl ⟨rfl,rfl,rfl,rfl,rfl⟩ rfl rfl rfl rfl rfl (by kernel_rfl) Try.func4 (by kernel_rfl)
  (of_decide_eq_true (by kernel_rfl)) (by unfold Func.isWrapper;first|(rw[if_pos (by decide+kernel)];kernel_rfl)|(rw[if_neg (by decide+kernel)];exact⟨rfl,rfl⟩))
  (fun os started H enc _=>begins13_law_lifted os started H enc)
#print axioms begins13_law_holds
end Go.Proofs.Ytgokdgcmkcmjeaa
