/-
  Words and walks.
-/
import Derived.Lib.SmallJoins
import Derived.Test.YtokpcpjnihinfaaGreatpnac
import Derived.Test.YtokpcpjnihinfaaGreatpnai
import Derived.Test.YtokpcpjnihinfaaGreatpnaj
import Derived.Test.YtokpcpjnihinfaaGreatpnav
set_option maxRecDepth 100000
set_option maxHeartbeats 16000000
namespace Go.Proofs.YtokpcpjnihinfaaGreat
open Go.RowKit Go.ChangeShapes Go.WideShapes Go.ChangeAt Go.Joins
theorem penS_any(w:World)(A:Option Addr)(c:Nat)(L:List Nat)(k:Int)(A2:Option Addr)(c2:Nat)(M:List Nat)(j:Int)(hr:ByR w w.heap.size A L.length c (lst L))(hr2:ByR w w.heap.size A2 M.length c2 (lst M)):
  Calls Tryz.prog 42 #[.agg #[.slice A L.length c,.int .i64 k],.agg #[.slice A2 M.length c2,.int .i64 j]] w fun e w'=>e=.returned (.bool (samePen L k M j))∧Below w.heap.size w w':=by
 obtain⟨n,hn⟩:∃n,n=L.length:=⟨_,rfl⟩
 obtain⟨m,hm⟩:∃m,m=M.length:=⟨_,rfl⟩
 obtain⟨h,hh⟩:∃h,h=w.heap.size:=⟨_,rfl⟩
 obtain⟨W1,hW1⟩:∃W,W=(w.alloc (.cells #[.slice A n c,.int .i64 k] 30)).alloc (.cells #[.slice A2 m c2,.int .i64 j] 30):=⟨_,rfl⟩
 have b1:Below h w W1:=by rw[hW1,hh];exact((Below.refl _ _).alloc (Nat.le_refl _) _).alloc (by simp) _
 have x1:BoxC W1 h #[.slice A n c,.int .i64 k] 30:=by rw[hW1,hh];exact(BoxC.new w _ _).old _
 have y1:BoxC W1 (h+1) #[.slice A2 m c2,.int .i64 j] 30:=by
  rw[hW1,hh];have:=BoxC.new (w.alloc (.cells #[.slice A n c,.int .i64 k] 30)) #[.slice A2 m c2,.int .i64 j] 30
  rwa[World.size_alloc]at this
 have heq:=eqb_any W1 A c L A2 c2 M ((hr.below (hh▸b1) (Nat.le_refl _)).more (hh▸b1).size) ((hr2.below (hh▸b1) (Nat.le_refl _)).more (hh▸b1).size)
 rw[←hn,←hm]at heq
 have k0:W1.cell? ⟨h,0,none⟩=some (.slice A n c):=x1.cell.trans rfl
 have k1:W1.cell? ⟨h,1,none⟩=some (.int .i64 k):=x1.cell.trans rfl
 have j0:W1.cell? ⟨h+1,0,none⟩=some (.slice A2 m c2):=y1.cell.trans rfl
 have j1:W1.cell? ⟨h+1,1,none⟩=some (.int .i64 j):=y1.cell.trans rfl
 have HW1:=Lib.hid hW1;have HH:=Lib.hid hh;have HB1:=Lib.hid b1;have HEQ:=Lib.hid heq
 rw[←hn,←hm]
 clear hW1 hh b1 x1 y1 hr hr2 hn hm heq
 by_cases e1:k=j
 ·have d1:(k==j)=true:=by simpa using e1
  have HV:Hid (samePen L k M j=decide (L=M)):=Lib.hid (by unfold samePen;simp[e1])
  clear e1
  go_enter Tryz.func42,Tryz.ntmps42
  go_wp2_with (first|(rw[←HW1.out,←HH.out])|fail)
  refine HEQ.out.mono ?_
  rintro e w2 ⟨rfl,rfl⟩
  rw[←HV.out]
  go_wp2
  go_ret
  exact⟨rfl,by rw[←HH.out];exact HB1.out⟩
 ·have d1:(k==j)=false:=by simpa using e1
  have HV:Hid (samePen L k M j=false):=Lib.hid (decide_eq_false (fun h=>e1 h.1))
  clear e1
  go_enter Tryz.func42,Tryz.ntmps42
  go_wp2_with (rw[←HW1.out,←HH.out])
  go_ret
  exact⟨by rw[HV.out];rfl,by rw[←HH.out];exact HB1.out⟩
theorem same_pcon:PSameCon:=by
 intro w a b Ah hc Aw wc Ap pc Bh hd Bw wd Bp pd ha hb
 obtain⟨h,hh⟩:∃h,h=w.heap.size:=⟨_,rfl⟩
 obtain⟨X,hX⟩:∃X,X=prsA a Ah hc Aw wc Ap pc:=⟨_,rfl⟩
 obtain⟨Y,hY⟩:∃Y,Y=prsA b Bh hd Bw wd Bp pd:=⟨_,rfl⟩
 rw[←hX,←hY]
 obtain⟨W1,hW1⟩:∃W,W=(w.alloc (.cells X 32)).alloc (.cells Y 32):=⟨_,rfl⟩
 have b1:Below h w W1:=by rw[hW1,hh];exact((Below.refl _ _).alloc (Nat.le_refl _) _).alloc (by simp) _
 have xW1:BoxC W1 h X 32:=by rw[hW1,hh];exact(BoxC.new w _ _).old _
 have yW1:BoxC W1 (h+1) Y 32:=by
  rw[hW1,hh];have:=BoxC.new (w.alloc (.cells X 32)) Y 32
  rwa[World.size_alloc]at this
 obtain⟨na,hna⟩:∃x,x=a.hist.length:=⟨_,rfl⟩
 obtain⟨ma,hma⟩:∃x,x=a.wait.length:=⟨_,rfl⟩
 obtain⟨pa,hpa⟩:∃x,x=a.pen.length:=⟨_,rfl⟩
 obtain⟨nb,hnb⟩:∃x,x=b.hist.length:=⟨_,rfl⟩
 obtain⟨mb,hmb⟩:∃x,x=b.wait.length:=⟨_,rfl⟩
 obtain⟨pb,hpb⟩:∃x,x=b.pen.length:=⟨_,rfl⟩
 have Xx:X=#[.int .i64 a.s,.int .i64 a.h,.int .i64 a.m,.bool a.z,.slice Ah na hc,.slice Aw ma wc,.slice Ap pa pc,.int .i64 a.k,.bool a.over]:=by rw[hX,hna,hma,hpa];rfl
 have Xy:Y=#[.int .i64 b.s,.int .i64 b.h,.int .i64 b.m,.bool b.z,.slice Bh nb hd,.slice Bw mb wd,.slice Bp pb pd,.int .i64 b.k,.bool b.over]:=by rw[hY,hnb,hmb,hpb];rfl
 have pv:∀V,Below h w V→PrsR V V.heap.size a Ah hc Aw wc Ap pc∧PrsR V V.heap.size b Bh hd Bw wd Bp pd:=fun V hV=>⟨(ha.below (hh▸hV) (Nat.le_refl _)).more (hh▸hV).size,(hb.below (hh▸hV) (Nat.le_refl _)).more (hh▸hV).size⟩
 have HPEN:Hid (∀V,Below h w V→Calls Tryz.prog 42 #[.agg #[.slice Ap pa pc,.int .i64 a.k],.agg #[.slice Bp pb pd,.int .i64 b.k]] V fun e w'=>e=.returned (.bool (samePen a.pen a.k b.pen b.k))∧Below V.heap.size V w'):=Lib.hid fun V hV=>by
  have h1:=penS_any V Ap pc a.pen a.k Bp pd b.pen b.k (pv V hV).1.pen (pv V hV).2.pen
  rwa[←hpa,←hpb]at h1
 have HEH:Hid (∀V,Below h w V→Calls Tryz.prog 43 #[.slice Ah na hc,.slice Bh nb hd] V fun e w'=>e=.returned (.bool (decide (a.hist=b.hist)))∧w'=V):=Lib.hid fun V hV=>by
  have h1:=eqb_any V Ah hc a.hist Bh hd b.hist (pv V hV).1.hist (pv V hV).2.hist
  rwa[←hna,←hnb]at h1
 have HEW:Hid (∀V,Below h w V→Calls Tryz.prog 43 #[.slice Aw ma wc,.slice Bw mb wd] V fun e w'=>e=.returned (.bool (decide (a.wait=b.wait)))∧w'=V):=Lib.hid fun V hV=>by
  have h1:=eqb_any V Aw wc a.wait Bw wd b.wait (pv V hV).1.wait (pv V hV).2.wait
  rwa[←hma,←hmb]at h1
 have HW1:=Lib.hid hW1;have HH:=Lib.hid hh;have HB1:=Lib.hid b1;have HX:=Lib.hid xW1;have HY:=Lib.hid yW1;have HXx:=Lib.hid Xx;have HXy:=Lib.hid Xy
 have cx0:W1.cell? ⟨h,0,none⟩=some (.int .i64 a.s):=by rw[xW1.cell,Xx];rfl
 have cx1:W1.cell? ⟨h,1,none⟩=some (.int .i64 a.h):=by rw[xW1.cell,Xx];rfl
 have cx2:W1.cell? ⟨h,2,none⟩=some (.int .i64 a.m):=by rw[xW1.cell,Xx];rfl
 have cx3:W1.cell? ⟨h,3,none⟩=some (.bool a.z):=by rw[xW1.cell,Xx];rfl
 have cx8:W1.cell? ⟨h,8,none⟩=some (.bool a.over):=by rw[xW1.cell,Xx];rfl
 have cx6:W1.cell? ⟨h,6,none⟩=some (.slice Ap pa pc):=by rw[xW1.cell,Xx];rfl
 have cx7:W1.cell? ⟨h,7,none⟩=some (.int .i64 a.k):=by rw[xW1.cell,Xx];rfl
 have cy0:W1.cell? ⟨h+1,0,none⟩=some (.int .i64 b.s):=by rw[yW1.cell,Xy];rfl
 have cy1:W1.cell? ⟨h+1,1,none⟩=some (.int .i64 b.h):=by rw[yW1.cell,Xy];rfl
 have cy2:W1.cell? ⟨h+1,2,none⟩=some (.int .i64 b.m):=by rw[yW1.cell,Xy];rfl
 have cy3:W1.cell? ⟨h+1,3,none⟩=some (.bool b.z):=by rw[yW1.cell,Xy];rfl
 have cy8:W1.cell? ⟨h+1,8,none⟩=some (.bool b.over):=by rw[yW1.cell,Xy];rfl
 have cy6:W1.cell? ⟨h+1,6,none⟩=some (.slice Bp pb pd):=by rw[yW1.cell,Xy];rfl
 have cy7:W1.cell? ⟨h+1,7,none⟩=some (.int .i64 b.k):=by rw[yW1.cell,Xy];rfl
 clear hW1 hh b1 xW1 yW1 Xx Xy pv hX hY hna hma hpa hnb hmb hpb ha hb
 cases d1:sameS a.s a.h a.m a.z b.s b.h b.m b.z with
 |false=>
  have HV:Hid (sameP a b=false):=Lib.hid (by unfold sameP;simp[*])
  go_enter Tryz.func24,Tryz.ntmps24
  go_wp2_with (first
   |(rw[←HW1.out,←HH.out])
   |(refine wpList_bin rfl _ _ _ _ _ rfl _ _ _ rfl rfl (guard_sty12 _ _ _ _ _) (eql_sty12 _ _ _ _ _ _ _ _ _ false d1) ?_)
   |fail)
  go_ret
  exact⟨by rw[HV.out];rfl,by rw[←HH.out];exact HB1.out⟩
 |true=>
  cases d2:(a.over==b.over)with
  |false=>
   have HV:Hid (sameP a b=false):=Lib.hid (by unfold sameP;simp[*])
   go_enter Tryz.func24,Tryz.ntmps24
   go_wp2_with (first
    |(rw[←HW1.out,←HH.out])
    |(refine wpList_bin rfl _ _ _ _ _ rfl _ _ _ rfl rfl (guard_sty12 _ _ _ _ _) (eql_sty12 _ _ _ _ _ _ _ _ _ true d1) ?_)
    |fail)
   go_ret
   exact⟨by rw[HV.out];rfl,by rw[←HH.out];exact HB1.out⟩
  |true=>
   cases dp:samePen a.pen a.k b.pen b.k with
   |false=>
    have HV:Hid (sameP a b=false):=Lib.hid (by unfold sameP;rw[d1,d2,dp];simp[*])
    go_enter Tryz.func24,Tryz.ntmps24
    go_wp2_with (first
     |(rw[←HW1.out,←HH.out])
     |(refine wpList_bin rfl _ _ _ _ _ rfl _ _ _ rfl rfl (guard_sty12 _ _ _ _ _) (eql_sty12 _ _ _ _ _ _ _ _ _ true d1) ?_)
     |fail)
    refine(HPEN.out _ HB1.out).mono ?_
    rintro e w2 ⟨rfl,hb2⟩
    have xw2:=HX.out.below hb2 HX.out.lt
    have yw2:=HY.out.below hb2 HY.out.lt
    have HB2:=Lib.hid (HB1.out.trans (hb2.mono (by have:=HX.out.lt;omega)))
    have kx4:w2.cell? ⟨h,4,none⟩=some (.slice Ah na hc):=by rw[xw2.cell,HXx.out];rfl
    have kx5:w2.cell? ⟨h,5,none⟩=some (.slice Aw ma wc):=by rw[xw2.cell,HXx.out];rfl
    have ky4:w2.cell? ⟨h+1,4,none⟩=some (.slice Bh nb hd):=by rw[yw2.cell,HXy.out];rfl
    have ky5:w2.cell? ⟨h+1,5,none⟩=some (.slice Bw mb wd):=by rw[yw2.cell,HXy.out];rfl
    clear hb2 xw2 yw2
    rw[dp]
    go_wp2
    go_ret
    exact⟨by rw[HV.out];rfl,by rw[←HH.out];exact HB2.out⟩
   |true=>
    cases e1:decide (a.hist=b.hist)with
    |false=>
     have HV:Hid (sameP a b=false):=Lib.hid (by unfold sameP;rw[d1,d2,dp];simp[*])
     go_enter Tryz.func24,Tryz.ntmps24
     go_wp2_with (first
      |(rw[←HW1.out,←HH.out])
      |(refine wpList_bin rfl _ _ _ _ _ rfl _ _ _ rfl rfl (guard_sty12 _ _ _ _ _) (eql_sty12 _ _ _ _ _ _ _ _ _ true d1) ?_)
      |fail)
     refine(HPEN.out _ HB1.out).mono ?_
     rintro e w2 ⟨rfl,hb2⟩
     have xw2:=HX.out.below hb2 HX.out.lt
     have yw2:=HY.out.below hb2 HY.out.lt
     have HB2:=Lib.hid (HB1.out.trans (hb2.mono (by have:=HX.out.lt;omega)))
     have kx4:w2.cell? ⟨h,4,none⟩=some (.slice Ah na hc):=by rw[xw2.cell,HXx.out];rfl
     have kx5:w2.cell? ⟨h,5,none⟩=some (.slice Aw ma wc):=by rw[xw2.cell,HXx.out];rfl
     have ky4:w2.cell? ⟨h+1,4,none⟩=some (.slice Bh nb hd):=by rw[yw2.cell,HXy.out];rfl
     have ky5:w2.cell? ⟨h+1,5,none⟩=some (.slice Bw mb wd):=by rw[yw2.cell,HXy.out];rfl
     clear hb2 xw2 yw2
     rw[dp]
     go_wp2_with fail
     refine(HEH.out w2 HB2.out).mono ?_
     rintro e w3 ⟨rfl,rfl⟩
     go_wp2
     go_ret
     exact⟨by rw[HV.out];rfl,by rw[←HH.out];exact HB2.out⟩
    |true=>
     cases e2:decide (a.wait=b.wait)with
     |false=>
      have HV:Hid (sameP a b=false):=Lib.hid (by unfold sameP;rw[d1,d2,dp];simp[*])
      go_enter Tryz.func24,Tryz.ntmps24
      go_wp2_with (first
       |(rw[←HW1.out,←HH.out])
       |(refine wpList_bin rfl _ _ _ _ _ rfl _ _ _ rfl rfl (guard_sty12 _ _ _ _ _) (eql_sty12 _ _ _ _ _ _ _ _ _ true d1) ?_)
       |fail)
      refine(HPEN.out _ HB1.out).mono ?_
      rintro e w2 ⟨rfl,hb2⟩
      have xw2:=HX.out.below hb2 HX.out.lt
      have yw2:=HY.out.below hb2 HY.out.lt
      have HB2:=Lib.hid (HB1.out.trans (hb2.mono (by have:=HX.out.lt;omega)))
      have kx4:w2.cell? ⟨h,4,none⟩=some (.slice Ah na hc):=by rw[xw2.cell,HXx.out];rfl
      have kx5:w2.cell? ⟨h,5,none⟩=some (.slice Aw ma wc):=by rw[xw2.cell,HXx.out];rfl
      have ky4:w2.cell? ⟨h+1,4,none⟩=some (.slice Bh nb hd):=by rw[yw2.cell,HXy.out];rfl
      have ky5:w2.cell? ⟨h+1,5,none⟩=some (.slice Bw mb wd):=by rw[yw2.cell,HXy.out];rfl
      clear hb2 xw2 yw2
      rw[dp]
      go_wp2_with fail
      refine(HEH.out w2 HB2.out).mono ?_
      rintro e w3 ⟨rfl,rfl⟩
      rw[e1]
      go_wp2_with fail
      refine(HEW.out w3 HB2.out).mono ?_
      rintro e w4 ⟨rfl,rfl⟩
      rw[e2]
      go_wp2
      go_ret
      exact⟨by rw[HV.out];rfl,by rw[←HH.out];exact HB2.out⟩
     |true=>
      have HV:Hid (sameP a b=true):=Lib.hid (by unfold sameP;rw[d1,d2,dp];simp[*])
      go_enter Tryz.func24,Tryz.ntmps24
      go_wp2_with (first
       |(rw[←HW1.out,←HH.out])
       |(refine wpList_bin rfl _ _ _ _ _ rfl _ _ _ rfl rfl (guard_sty12 _ _ _ _ _) (eql_sty12 _ _ _ _ _ _ _ _ _ true d1) ?_)
       |fail)
      refine(HPEN.out _ HB1.out).mono ?_
      rintro e w2 ⟨rfl,hb2⟩
      have xw2:=HX.out.below hb2 HX.out.lt
      have yw2:=HY.out.below hb2 HY.out.lt
      have HB2:=Lib.hid (HB1.out.trans (hb2.mono (by have:=HX.out.lt;omega)))
      have kx4:w2.cell? ⟨h,4,none⟩=some (.slice Ah na hc):=by rw[xw2.cell,HXx.out];rfl
      have kx5:w2.cell? ⟨h,5,none⟩=some (.slice Aw ma wc):=by rw[xw2.cell,HXx.out];rfl
      have ky4:w2.cell? ⟨h+1,4,none⟩=some (.slice Bh nb hd):=by rw[yw2.cell,HXy.out];rfl
      have ky5:w2.cell? ⟨h+1,5,none⟩=some (.slice Bw mb wd):=by rw[yw2.cell,HXy.out];rfl
      clear hb2 xw2 yw2
      rw[dp]
      go_wp2_with fail
      refine(HEH.out w2 HB2.out).mono ?_
      rintro e w3 ⟨rfl,rfl⟩
      rw[e1]
      go_wp2_with fail
      refine(HEW.out w3 HB2.out).mono ?_
      rintro e w4 ⟨rfl,rfl⟩
      rw[e2]
      go_wp2
      go_ret
      exact⟨by rw[HV.out];rfl,by rw[←HH.out];exact HB2.out⟩
end Go.Proofs.YtokpcpjnihinfaaGreat
namespace Go.Proofs.YtokpcpjnihinfaaGreat
theorem pw_con:PWriteCon:=write_pcon check_pcon
theorem pf_con:PFlushCon:=flush_pcon check_pcon
theorem pe_con:PFinishCon:=finish_pcon check_pcon
theorem pa_con:PAllCon:=all_pcon new_pcon
end Go.Proofs.YtokpcpjnihinfaaGreat
namespace Go.Proofs.YtokpcpjnihinfaaGreat
open Go.RowKit Go.ChangeShapes Go.WideShapes Go.ChangeAt Go.Joins
section
variable {H:Type} {enc:TypeId×Value→H} {P:Program} {w:World} {base:Nat} {spare:Nat→Bool} {held:Bool}
theorem trod_struct5{t:TypeId}{f0 f1 f2 f3 f4:Field}{fuel:Nat}{cs:List Value}{x:DataW H×List MemPlace}(ht:P.underlying t=some (.struct #[f0,f1,f2,f3,f4]))(h:DataW.trod enc P w base spare held fuel t cs=some x):
  ∃y0 y1 y2 y3 y4 n,x=(.agg [y0.1,y1.1,y2.1,y3.1,y4.1],y0.2++(y1.2++(y2.2++(y3.2++y4.2))))∧cs.length=P.cellsOf t∧DataW.trod enc P w base spare held n f0.type ((cs.drop f0.offset).take (P.cellsOf f0.type))=some y0∧
   DataW.trod enc P w base spare held n f1.type ((cs.drop f1.offset).take (P.cellsOf f1.type))=some y1∧DataW.trod enc P w base spare held n f2.type ((cs.drop f2.offset).take (P.cellsOf f2.type))=some y2∧
   DataW.trod enc P w base spare held n f3.type ((cs.drop f3.offset).take (P.cellsOf f3.type))=some y3∧DataW.trod enc P w base spare held n f4.type ((cs.drop f4.offset).take (P.cellsOf f4.type))=some y4:=by
 obtain⟨xs,n,_,rfl,hl,hlen,hf⟩:=DataW.trod_struct ht h
 match xs,hlen with
 |[y0,y1,y2,y3,y4],_=>exact⟨y0,y1,y2,y3,y4,n,by simp,hl,by simpa using hf 0 f0 rfl,by simpa using hf 1 f1 rfl,by simpa using hf 2 f2 rfl,by simpa using hf 3 f3 rfl,by simpa using hf 4 f4 rfl⟩
end
theorem cellsPrs:Tryz.prog.cellsOf 32=9:=by kernel_rfl
theorem cellsSty5:Tryz.prog.cellsOf 27=4:=by kernel_rfl
theorem cellsPen5:Tryz.prog.cellsOf 30=2:=by kernel_rfl
theorem cellsByt5:Tryz.prog.cellsOf 22=1:=by kernel_rfl
theorem cellsBol5:Tryz.prog.cellsOf 4=1:=by kernel_rfl
theorem cellsInt5:Tryz.prog.cellsOf 3=1:=by kernel_rfl
theorem array9{cs:Array Value}(h:cs.size=9):∃c0 c1 c2 c3 c4 c5 c6 c7 c8,cs=#[c0,c1,c2,c3,c4,c5,c6,c7,c8]:=by
 obtain⟨l⟩:=cs
 match l,h with
 |[c0,c1,c2,c3,c4,c5,c6,c7,c8],_=>exact⟨c0,c1,c2,c3,c4,c5,c6,c7,c8,rfl⟩
theorem byr_list{w:World}{B n c:Nat}{A:Option Addr}{f:Nat→Nat}(h:ByR w B A n c f):∃L:List Nat,L.length=n∧ByR w B A L.length c (lst L):=by
 have hl:BytesP (preL f n):=fun x hx=>by
  unfold preL at hx
  obtain⟨i,_,rfl⟩:=List.mem_map.1 hx
  exact h.1.1 i
 refine⟨preL f n,preL_length _ _,?_⟩
 rw[preL_length]
 refine h.same (lst_lt hl) fun j hj=>?_
 show f j=(preL f n).getD j 0
 rw[preL_get f hj]
theorem open_prs{H:Type}{enc:TypeId×Value→H}{W:World}{r:Reach}{b0 base:Nat}{sp:Nat→Bool}{hd:Bool}{v:Value}{d:DataW H}{p:List MemPlace}
  (hv:Value.okWide Tryz.prog W r b0 32 v) (h:DataW.Trod enc Tryz.prog W base sp hd 32 v d p):
  ∃(q:Prs) (Ah:Option Addr) (hc:Nat) (Aw:Option Addr) (wc:Nat) (Ap:Option Addr) (pc:Nat),v=.agg (prsA q Ah hc Aw wc Ap pc)∧PrsR W W.heap.size q Ah hc Aw wc Ap pc:=by
 obtain⟨cs,rfl,hsz⟩:=okWide_struct Tryz.underlying32 hv
 rw[cellsPrs]at hsz
 obtain⟨c0,c1,c2,c3,c4,c5,c6,c7,c8,rfl⟩:=array9 hsz
 obtain⟨fuel,hf⟩:=h
 obtain⟨y0,y1,y2,y3,y4,n,_,_,h0,h1,h2,h3,h4⟩:=trod_struct5 Tryz.underlying32 hf
 simp only[Value.cells]at h0 h1 h2 h3 h4
 rw[show Tryz.prog.cellsOf _=4 from cellsSty5]at h0
 rw[show Tryz.prog.cellsOf _=1 from cellsByt5]at h1 h2
 rw[show Tryz.prog.cellsOf _=2 from cellsPen5]at h3
 rw[show Tryz.prog.cellsOf _=1 from cellsBol5]at h4
 replace h0:DataW.trod enc Tryz.prog W base sp hd n 27 [c0,c1,c2,c3]=some y0:=h0
 replace h1:DataW.trod enc Tryz.prog W base sp hd n 22 [c4]=some y1:=h1
 replace h2:DataW.trod enc Tryz.prog W base sp hd n 22 [c5]=some y2:=h2
 replace h3:DataW.trod enc Tryz.prog W base sp hd n 30 [c6,c7]=some y3:=h3
 replace h4:DataW.trod enc Tryz.prog W base sp hd n 4 [c8]=some y4:=h4
 obtain⟨z0,z1,z2,z3,m,_,_,g0,g1,g2,g3⟩:=trod_struct4 Tryz.underlying27 h0
 rw[show Tryz.prog.cellsOf _=1 from cellsInt5]at g0 g1 g2
 rw[show Tryz.prog.cellsOf _=1 from cellsBol5]at g3
 replace g0:DataW.trod enc Tryz.prog W base sp hd m 3 [c0]=some z0:=g0
 replace g1:DataW.trod enc Tryz.prog W base sp hd m 3 [c1]=some z1:=g1
 replace g2:DataW.trod enc Tryz.prog W base sp hd m 3 [c2]=some z2:=g2
 replace g3:DataW.trod enc Tryz.prog W base sp hd m 4 [c3]=some z3:=g3
 obtain⟨s,e0,_⟩:=DataW.trod_int Tryz.underlying3 g0
 obtain⟨hh,e1,_⟩:=DataW.trod_int Tryz.underlying3 g1
 obtain⟨mm,e2,_⟩:=DataW.trod_int Tryz.underlying3 g2
 obtain⟨zz,e3,_⟩:=DataW.trod_bool Tryz.underlying4 g3
 obtain⟨u0,u1,m2,_,_,k0,k1⟩:=trod_struct2 Tryz.underlying30 h3
 rw[show Tryz.prog.cellsOf _=1 from cellsByt5]at k0
 rw[show Tryz.prog.cellsOf _=1 from cellsInt5]at k1
 replace k0:DataW.trod enc Tryz.prog W base sp hd m2 22 [c6]=some u0:=k0
 replace k1:DataW.trod enc Tryz.prog W base sp hd m2 3 [c7]=some u1:=k1
 obtain⟨kk,e7,_⟩:=DataW.trod_int Tryz.underlying3 k1
 obtain⟨ov,e8,_⟩:=DataW.trod_bool Tryz.underlying4 h4
 obtain⟨Ah,l1,hc,e4⟩:=slice_form Tryz.underlying22 h1
 obtain⟨Aw,l2,wc,e5⟩:=slice_form Tryz.underlying22 h2
 obtain⟨Ap,l3,pc,e6⟩:=slice_form Tryz.underlying22 k0
 simp only[List.cons.injEq,and_true]at e0 e1 e2 e3 e4 e5 e6 e7 e8
 subst e0;subst e1;subst e2;subst e3;subst e4;subst e5;subst e6;subst e7;subst e8
 obtain⟨f1,r1⟩:=open_byr (d:=y1.1) (p:=y1.2) ⟨n,by simpa[Value.cells]using h1⟩
 obtain⟨f2,r2⟩:=open_byr (d:=y2.1) (p:=y2.2) ⟨n,by simpa[Value.cells]using h2⟩
 obtain⟨f3,r3⟩:=open_byr (d:=u0.1) (p:=u0.2) ⟨m2,by simpa[Value.cells]using k0⟩
 obtain⟨L1,n1,q1⟩:=byr_list r1
 obtain⟨L2,n2,q2⟩:=byr_list r2
 obtain⟨L3,n3,q3⟩:=byr_list r3
 exact⟨⟨s,hh,mm,zz,L1,L2,L3,kk,ov⟩,Ah,hc,Aw,wc,Ap,pc,by unfold prsA;rw[n1,n2,n3],q1,q2,q3⟩
end Go.Proofs.YtokpcpjnihinfaaGreat
