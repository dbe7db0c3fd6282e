/-
  Words and walks.
-/
import Derived.Test.YtokpcpjnihinfaaGreatpnad
import Derived.Test.YtokpcpjnihinfaaGreatpnaj
import Derived.Test.YtokpcpjnihinfaaGreatpnak
import Derived.Test.YtokpcpjnihinfaaGreatpnal
import Derived.Test.YtokpcpjnihinfaaGreatpnau
set_option maxRecDepth 100000
set_option maxHeartbeats 16000000
namespace Go.Proofs.YtokpcpjnihinfaaGreat
open Go.RowKit Go.ChangeShapes Go.WideShapes Go.ChangeAt Go.Joins
theorem after_write(hchk:PCheckCon)(w:World)(p:Prs)(Ah:Option Addr)(hc:Nat)(Aw:Option Addr)(wc:Nat)(Ap:Option Addr)(pc:Nat)(hp:PrsR w w.heap.size p Ah hc Aw wc Ap pc)(h1:p.hist.length≤1000000)(h2:p.wait.length≤1000000)(Ab:Option Addr)(bc:Nat)(b:List Nat)(hb:ByR w w.heap.size Ab b.length bc (lst b))(h3:b.length≤1000000):
  Calls Tryz.prog 32 #[.agg (prsA p Ah hc Aw wc Ap pc),.slice Ab b.length bc,.func (.func 29) #[] #[]] w fun e w'=>PrsOut w w' e (ansP (wrtEP p b.length) (writeP p b)) (wrtEP p b.length):=by
 obtain⟨h,hh⟩:∃h,h=w.heap.size:=⟨_,rfl⟩
 obtain⟨X,hX⟩:∃X,X=prsA p Ah hc Aw wc Ap pc:=⟨_,rfl⟩
 rw[←hX]
 obtain⟨Z,hZ⟩:∃Z,Z=prsA (begP 0 0 0 false) none 0 none 0 none 0:=⟨_,rfl⟩
 have hz:=(zero_of_info zero_prs).1
 have hb0:=built_prs0
 rw[←hZ]at hz hb0
 obtain⟨W1,hW1⟩:∃W,W=(w.alloc (.cells X 32)).alloc (.cells Z 32):=⟨_,rfl⟩
 have b1:Below h w W1:=by rw[hW1,hh];exact((Below.refl _ _).alloc (Nat.le_refl _) _).alloc (by simp) _
 have x1:BoxC W1 h X 32:=by rw[hW1,hh];exact(BoxC.new w _ _).old _
 have z1:BoxC W1 (h+1) Z 32:=by
  rw[hW1,hh];have:=BoxC.new (w.alloc (.cells X 32)) Z 32
  rwa[World.size_alloc]at this
 have hlt1:h+1<W1.heap.size:=z1.lt
 have hask:=hchk W1 p Ah hc Aw wc Ap pc (hp.on (hh▸b1))
 rw[←hX]at hask
 obtain⟨bn,hbn⟩:∃x,x=b.length:=⟨_,rfl⟩
 obtain⟨r,hr⟩:∃r,r=writeP p b:=⟨_,rfl⟩
 rw[←hr,←hbn]
 have hx8:X[8]?=some (.bool p.over):=by rw[hX];rfl
 have HASK:=Lib.hid hask;have HW1:=Lib.hid hW1;have HH:=Lib.hid hh;have HB1:=Lib.hid b1;have HX1:=Lib.hid x1;have HZ1:=Lib.hid z1;have HLT:=Lib.hid hlt1;have HXX:=Lib.hid hX;have HXS:Hid (X.size=9):=Lib.hid (by rw[hX];rfl);have HZS:Hid (Z.size=9):=Lib.hid (by rw[hZ];rfl);have HZE:=Lib.hid hZ;have HZO:Hid (Z.all (·.oneCell')=true):=Lib.hid (by rw[hZ];exact prsA_one ..);have HZN:Hid (NoB Z):=Lib.hid (by rw[hZ];exact noB_prs _ _ _ _ _ _ _)
 have HP:=Lib.hid hp;have HB0:=Lib.hid hb0;have HBB:=Lib.hid hb;have HX8:=Lib.hid hx8;have HBN:=Lib.hid hbn;have HRR:=Lib.hid hr
 have HNIL:Hid (∀(V:World) (E:Int),E≠0→Below h w V→PrsOut w V (.returned (.tuple #[.agg Z,.slice none 0 0,.int .i64 E])) (ansP E r) E):=Lib.hid fun V E hE hV=>by
  unfold ansP
  rw[if_neg hE]
  exact⟨none,0,none,0,none,0,none,0,by rw[hZ];rfl,prs0_nil _ _,ByR.nil _ _ _ nilB,hh▸hV,NewB.nil _ _ _,NewB.nil _ _ _⟩
 clear hask hW1 hh b1 x1 z1 hlt1 hX hZ hp hb0 hb hbn hr hx8
 cases hm:mayP p with
 |false=>
  have HC:Hid (chkP p=8):=Lib.hid (by unfold chkP;rw[hm];rfl)
  have HE:Hid (wrtEP p bn=8):=Lib.hid (by unfold wrtEP askP;rw[hm];rfl)
  clear hm
  go_enter Tryz.func32,Tryz.ntmps32
  go_wp2_with (first
   |(rw[←HW1.out,←HH.out])
   |(refine wpList_load_row rfl _ _ rfl h rfl _ X (0,0) _ HX1.out Tryz.underlying32 rfl (by rw[HXS.out];exact szPrs) ?_)
   |fail)
  refine HASK.out.mono ?_
  rintro e w2 ⟨rfl,hb2⟩
  have z2:=HZ1.out.below hb2 HLT.out
  have x2:=HX1.out.below hb2 HX1.out.lt
  have hb02:=HB1.out.trans (hb2.mono (by have:=HLT.out;omega))
  rw[HC.out]
  clear x2
  obtain⟨U,hU⟩:∃U,U=w2.setRow (h+1) Z:=⟨_,rfl⟩
  have HU1:Hid (BoxC U (h+1) Z 32):=Lib.hid (by rw[hU];exact z2.row Z)
  have HUB:Hid (Below h w U):=Lib.hid (by rw[hU];exact below_rowC hb02 (by omega) _)
  have HU:=Lib.hid hU;have HZ2:=Lib.hid z2
  clear hU hb2 hb02 z2
  go_wp2_with (first
   |(refine wpList_buildTo rfl 32 #[] rfl (some 15) rfl Z ?_ ?_;focus(simpa[Act.eval]using HB0.out))
   |(refine wpList_store_rowTo rfl _ _ _ rfl rfl (h+1) Z rfl rfl 32 Z HZ2.out (by rw[HZS.out];exact szPrs) rfl HZO.out ?_;rw[←HU.out]))
  refine bodyPost_ret (cell_prs3 rfl _ _ (h+1) Z HZS.out rfl HU1.out) rfl ?_
  rw[HE.out]
  exact HNIL.out U _ (by decide) HUB.out
 |true=>
  have HC:Hid (chkP p=0):=Lib.hid (by unfold chkP;rw[hm];rfl)
  cases ho:p.over with
  |true=>
   have HE:Hid (wrtEP p bn=6):=Lib.hid (by unfold wrtEP askP;rw[hm,ho];rfl)
   have HO:=Lib.hid ho
   clear hm ho
   go_enter Tryz.func32,Tryz.ntmps32
   go_wp2_with (first
    |(rw[←HW1.out,←HH.out])
    |(refine wpList_load_row rfl _ _ rfl h rfl _ X (0,0) _ HX1.out Tryz.underlying32 rfl (by rw[HXS.out];exact szPrs) ?_)
    |fail)
   refine HASK.out.mono ?_
   rintro e w2 ⟨rfl,hb2⟩
   have z2:=HZ1.out.below hb2 HLT.out
   have x2:=HX1.out.below hb2 HX1.out.lt
   have hb02:=HB1.out.trans (hb2.mono (by have:=HLT.out;omega))
   rw[HC.out]
   have k8:w2.cell? ⟨h,8,none⟩=some (.bool true):=by rw[←HO.out];exact x2.cell.trans HX8.out
   clear x2
   obtain⟨U,hU⟩:∃U,U=w2.setRow (h+1) Z:=⟨_,rfl⟩
   have HU1:Hid (BoxC U (h+1) Z 32):=Lib.hid (by rw[hU];exact z2.row Z)
   have HUB:Hid (Below h w U):=Lib.hid (by rw[hU];exact below_rowC hb02 (by omega) _)
   have HU:=Lib.hid hU;have HZ2:=Lib.hid z2
   clear hU hb2 hb02 z2
   go_wp2_with (first
    |(refine wpList_buildTo rfl 32 #[] rfl (some 19) rfl Z ?_ ?_;focus(simpa[Act.eval]using HB0.out))
    |(refine wpList_store_rowTo rfl _ _ _ rfl rfl (h+1) Z rfl rfl 32 Z HZ2.out (by rw[HZS.out];exact szPrs) rfl HZO.out ?_;rw[←HU.out]))
   refine bodyPost_ret (cell_prs3 rfl _ _ (h+1) Z HZS.out rfl HU1.out) rfl ?_
   rw[HE.out]
   exact HNIL.out U _ (by decide) HUB.out
  |false=>
   have HO:=Lib.hid ho
   by_cases hbig:131072<bn
   ·have HE:Hid (wrtEP p bn=4):=Lib.hid (by unfold wrtEP askP;rw[hm,ho];simp;omega)
    have d1:decide ((131072:Int)<(bn:Int))=true:=decide_eq_true (by omega)
    clear hm ho hbig
    go_enter Tryz.func32,Tryz.ntmps32
    go_wp2_with (first
     |(rw[←HW1.out,←HH.out])
     |(refine wpList_load_row rfl _ _ rfl h rfl _ X (0,0) _ HX1.out Tryz.underlying32 rfl (by rw[HXS.out];exact szPrs) ?_)
     |fail)
    refine HASK.out.mono ?_
    rintro e w2 ⟨rfl,hb2⟩
    have z2:=HZ1.out.below hb2 HLT.out
    have x2:=HX1.out.below hb2 HX1.out.lt
    have hb02:=HB1.out.trans (hb2.mono (by have:=HLT.out;omega))
    rw[HC.out]
    have k8:w2.cell? ⟨h,8,none⟩=some (.bool false):=by rw[←HO.out];exact x2.cell.trans HX8.out
    clear x2
    obtain⟨U,hU⟩:∃U,U=w2.setRow (h+1) Z:=⟨_,rfl⟩
    have HU1:Hid (BoxC U (h+1) Z 32):=Lib.hid (by rw[hU];exact z2.row Z)
    have HUB:Hid (Below h w U):=Lib.hid (by rw[hU];exact below_rowC hb02 (by omega) _)
    have HU:=Lib.hid hU;have HZ2:=Lib.hid z2
    clear hU hb2 hb02 z2
    go_wp2_with (first
     |(refine wpList_buildTo rfl 32 #[] rfl (some 23) rfl Z ?_ ?_;focus(simpa[Act.eval]using HB0.out))
     |(refine wpList_store_rowTo rfl _ _ _ rfl rfl (h+1) Z rfl rfl 32 Z HZ2.out (by rw[HZS.out];exact szPrs) rfl HZO.out ?_;rw[←HU.out]))
    refine bodyPost_ret (cell_prs3 rfl _ _ (h+1) Z HZS.out rfl HU1.out) rfl ?_
    rw[HE.out]
    exact HNIL.out U _ (by decide) HUB.out
   ·have HE:Hid (wrtEP p bn=0):=Lib.hid (by unfold wrtEP askP;rw[hm,ho];simp;omega)
    have d1:decide ((131072:Int)<(bn:Int))=false:=decide_eq_false (by omega)
    have gd:GoodP p:=goodP_of hm ho (bytes_of HP.out.hist) (bytes_of HP.out.wait) (bytes_of HP.out.pen)
    have bb:=bytes_of HBB.out
    have hsty:=mayS_rng gd.sty
    have hrg:r.1.hist.length≤2000000∧r.1.wait.length≤2000000∧r.1.pen.length≤2000000:=by
     rw[HRR.out]
     have g2:=write_good gd bb
     have h1':=g2.1.hist;have h2':=g2.1.wait;have h3':=g2.1.len;have h4':=g2.1.k7;have h5':=g2.2.1;have h6':=g2.2.2.1
     exact⟨by omega,by omega,by omega⟩
    have HRG:=Lib.hid hrg
    have HST:Hid (∀(V:World) (g:Nat) (Ah:Option Addr) (hc:Nat) (Aw:Option Addr) (wc:Nat) (B:Nat),Und V B g {p with wait:=p.wait++b} [] Ah hc Aw wc Ap pc none 0→Calls Tryz.prog 29 #[.pointer (some ⟨g,0,none⟩)] V fun e w'=>e=.returned (.tuple #[])∧(∃Ah' hc' Aw' wc' Ap' pc' Ao' oc',Und w' B g r.1 r.2 Ah' hc' Aw' wc' Ap' pc' Ao' oc')∧Below B V w'):=Lib.hid fun V g Ah hc Aw wc B UV=>by
     rw[HRR.out]
     have gw:GoodW {p with wait:=p.wait++b}:=gd.w.set (fun x hx=>(List.mem_append.1 hx).elim (gd.bw x) (bb x))
     have hl:(p.wait++b).length≤300000:=by rw[List.length_append];have:=gd.wait;have:=HBN.out;omega
     have:=pwrite_any V B g {p with wait:=p.wait++b} [] Ah hc Aw wc Ap pc none 0 UV gw (by show(p.wait++b).length≤_;omega) (by show 0+10*(p.wait++b).length≤_;omega)
     refine this.mono fun e w' ⟨e1,e2,_,e4⟩=>⟨e1,?_,e4⟩
     have ew:wrtP ({p with wait:=p.wait++b}:Prs).wait.length {p with wait:=p.wait++b} ({p with wait:=p.wait++b}:Prs).wait=writeP p b:=wrt_wait _ p _ _
     rw[ew,List.nil_append]at e2
     exact e2
    have HBE:Hid (∀V,Below h w V→Calls Tryz.prog 28 #[.agg X,.slice Ab bn bc] V fun e w'=>∃g Ah' hc' Aw' wc',e=.returned (.pointer (some ⟨g,0,none⟩))∧Und w' V.heap.size g {p with wait:=p.wait++b} [] Ah' hc' Aw' wc' Ap pc none 0∧Below V.heap.size V w'):=Lib.hid fun V hV=>by
     rw[HXX.out,HBN.out]
     rw[HH.out]at hV
     exact pbegin_any V p Ah hc Aw wc Ap pc (HP.out.on hV) Ab bc b ((HBB.out.below hV (Nat.le_refl _)).more hV.size) h1 h2 h3
    clear hm ho hbig gd bb hsty hrg h1 h2 h3
    go_enter Tryz.func32,Tryz.ntmps32
    go_wp2_with (first
     |(rw[←HW1.out,←HH.out])
     |(refine wpList_load_row rfl _ _ rfl h rfl _ X (0,0) _ HX1.out Tryz.underlying32 rfl (by rw[HXS.out];exact szPrs) ?_)
     |fail)
    refine HASK.out.mono ?_
    rintro e w2 ⟨rfl,hb2⟩
    have z2:=HZ1.out.below hb2 HLT.out
    have x2:=HX1.out.below hb2 HX1.out.lt
    have hb02:=HB1.out.trans (hb2.mono (by have:=HLT.out;omega))
    rw[HC.out]
    have k8:w2.cell? ⟨h,8,none⟩=some (.bool false):=by rw[←HO.out];exact x2.cell.trans HX8.out
    have HBE2:=Lib.hid (HBE.out w2 hb02)
    have HX2:=Lib.hid x2;have HZ2:=Lib.hid z2;have HB2:=Lib.hid hb02
    clear hb2 hb02 z2 x2
    go_wp2_with (first
     |(refine wpList_load_row rfl _ _ rfl h rfl _ X (0,0) _ HX2.out Tryz.underlying32 rfl (by rw[HXS.out];exact szPrs) ?_)
     |fail)
    refine HBE2.out.mono ?_
    rintro e w3 ⟨g,A1,k1,A2,k2,rfl,U3,hb3⟩
    have HS3:=Lib.hid (HST.out w3 g A1 k1 A2 k2 w2.heap.size U3)
    have HZ3:=Lib.hid (HZ2.out.below hb3 HZ2.out.lt)
    have HB3:=Lib.hid hb3
    clear U3 hb3
    go_wp2_with fail
    refine HS3.out.mono ?_
    rintro e w4 ⟨rfl,⟨A3,k3,A4,k4,A5,k5,A6,k6,U4⟩,hb4⟩
    have hans:=panswer_any w4 w2.heap.size g r.1 r.2 A3 k3 A4 k4 A5 k5 A6 k6 U4 HRG.out.1 HRG.out.2.1 HRG.out.2.2
    have HAN:=Lib.hid hans
    have HZ4:=Lib.hid (HZ3.out.below hb4 HZ2.out.lt)
    have HB4:=Lib.hid (HB3.out.trans hb4)
    clear hans U4 hb4 HS3
    go_wp2_with fail
    refine HAN.out.mono ?_
    rintro e w5 ⟨A7,k7,A8,k8',A9,k9,rfl,r5,ro5,hb5,n7,n8⟩
    have z5:=HZ4.out.below hb5 HZ2.out.lt
    have hb05:=HB2.out.trans ((HB4.out.trans hb5).mono (by have:=HZ2.out.lt;omega))
    obtain⟨Y0,hY0⟩:∃Y,Y=prsA r.1 A7 k7 A8 k8' A9 k9:=⟨_,rfl⟩
    obtain⟨lo,hlo⟩:∃x,x=r.2.length:=⟨_,rfl⟩
    obtain⟨wC,hwC⟩:∃W,W=w5.setRow (h+1) Y0:=⟨_,rfl⟩
    have HU1:Hid (BoxC wC (h+1) Y0 32):=Lib.hid (by rw[hwC];exact z5.row Y0)
    have HUB:Hid (Below h w wC):=Lib.hid (by rw[hwC];exact below_rowC hb05 (by omega) _)
    have kk:∀{A:Option Addr} {n c:Nat} {f:Nat→Nat},ByR w5 w5.heap.size A n c f→ByR wC wC.heap.size A n c f:=fun{A n c f} q=>by
     rw[hwC,size_setRow];exact q.rowBox z5 HZN.out Y0
    have nn:∀{A:Option Addr} {n:Nat},NewB w5 w2.heap.size A n→NewB wC w.heap.size A n:=fun{A n} q h0=>by
     obtain⟨gg,o,cur,e1,e2,e3⟩:=q h0
     have hs2:=HZ2.out.lt
     have hs1:=HH.out
     refine⟨gg,o,cur,e1,by omega,?_⟩
     rw[hwC,setRow_other _ _ _ _ (by omega)];exact e3
    have HEND:Hid (PrsOut w wC (.returned (.tuple #[.agg Y0,.slice A6 lo k6,.int .i64 0])) r 0):=Lib.hid ⟨A7,k7,A8,k8',A9,k9,A6,k6,by rw[hY0,hlo],⟨kk r5.hist,kk r5.wait,kk r5.pen⟩,kk ro5,HH.out▸HUB.out,nn n7,nn n8⟩
    have HY0S:Hid (Y0.size=9):=Lib.hid (by rw[hY0];rfl)
    have HY0O:Hid (Y0.all (·.oneCell')=true):=Lib.hid (by rw[hY0];exact prsA_one ..)
    have HZ5:=Lib.hid z5;have HWC:=Lib.hid hwC
    rw[←hY0,←hlo]
    clear hwC z5 hb5 hb05 r5 ro5 n7 n8 kk nn hY0 hlo HAN
    go_wp2_with (refine wpList_store_rowTo rfl _ _ _ rfl rfl (h+1) Y0 rfl rfl 32 Z HZ5.out (by rw[HY0S.out];exact szPrs) (by rw[HZS.out,HY0S.out]) HY0O.out ?_;rw[←HWC.out])
    refine bodyPost_ret (cell_prs3 rfl _ _ (h+1) Y0 HY0S.out rfl HU1.out) rfl ?_
    rw[HE.out]
    unfold ansP
    rw[if_pos rfl]
    exact HEND.out
theorem after_flush(hchk:PCheckCon)(w:World)(p:Prs)(Ah:Option Addr)(hc:Nat)(Aw:Option Addr)(wc:Nat)(Ap:Option Addr)(pc:Nat)(hp:PrsR w w.heap.size p Ah hc Aw wc Ap pc)(h1:p.hist.length≤1000000)(h2:p.wait.length≤1000000)(Ab:Option Addr)(bc:Nat)(b:List Nat)(hb:ByR w w.heap.size Ab b.length bc (lst b))(h3:b.length≤1000000)(hnil:b=[]):
  Calls Tryz.prog 32 #[.agg (prsA p Ah hc Aw wc Ap pc),.slice Ab b.length bc,.func (.func 33) #[] #[]] w fun e w'=>PrsOut w w' e (ansP (wrtEP p b.length) (flushedP p)) (wrtEP p b.length):=by
 obtain⟨h,hh⟩:∃h,h=w.heap.size:=⟨_,rfl⟩
 obtain⟨X,hX⟩:∃X,X=prsA p Ah hc Aw wc Ap pc:=⟨_,rfl⟩
 rw[←hX]
 obtain⟨Z,hZ⟩:∃Z,Z=prsA (begP 0 0 0 false) none 0 none 0 none 0:=⟨_,rfl⟩
 have hz:=(zero_of_info zero_prs).1
 have hb0:=built_prs0
 rw[←hZ]at hz hb0
 obtain⟨W1,hW1⟩:∃W,W=(w.alloc (.cells X 32)).alloc (.cells Z 32):=⟨_,rfl⟩
 have b1:Below h w W1:=by rw[hW1,hh];exact((Below.refl _ _).alloc (Nat.le_refl _) _).alloc (by simp) _
 have x1:BoxC W1 h X 32:=by rw[hW1,hh];exact(BoxC.new w _ _).old _
 have z1:BoxC W1 (h+1) Z 32:=by
  rw[hW1,hh];have:=BoxC.new (w.alloc (.cells X 32)) Z 32
  rwa[World.size_alloc]at this
 have hlt1:h+1<W1.heap.size:=z1.lt
 have hask:=hchk W1 p Ah hc Aw wc Ap pc (hp.on (hh▸b1))
 rw[←hX]at hask
 obtain⟨bn,hbn⟩:∃x,x=b.length:=⟨_,rfl⟩
 obtain⟨r,hr⟩:∃r,r=flushedP p:=⟨_,rfl⟩
 rw[←hr,←hbn]
 have hx8:X[8]?=some (.bool p.over):=by rw[hX];rfl
 have HASK:=Lib.hid hask;have HW1:=Lib.hid hW1;have HH:=Lib.hid hh;have HB1:=Lib.hid b1;have HX1:=Lib.hid x1;have HZ1:=Lib.hid z1;have HLT:=Lib.hid hlt1;have HXX:=Lib.hid hX;have HXS:Hid (X.size=9):=Lib.hid (by rw[hX];rfl);have HZS:Hid (Z.size=9):=Lib.hid (by rw[hZ];rfl);have HZE:=Lib.hid hZ;have HZO:Hid (Z.all (·.oneCell')=true):=Lib.hid (by rw[hZ];exact prsA_one ..);have HZN:Hid (NoB Z):=Lib.hid (by rw[hZ];exact noB_prs _ _ _ _ _ _ _)
 have HP:=Lib.hid hp;have HB0:=Lib.hid hb0;have HBB:=Lib.hid hb;have HX8:=Lib.hid hx8;have HBN:=Lib.hid hbn;have HRR:=Lib.hid hr
 have HNIL:Hid (∀(V:World) (E:Int),E≠0→Below h w V→PrsOut w V (.returned (.tuple #[.agg Z,.slice none 0 0,.int .i64 E])) (ansP E r) E):=Lib.hid fun V E hE hV=>by
  unfold ansP
  rw[if_neg hE]
  exact⟨none,0,none,0,none,0,none,0,by rw[hZ];rfl,prs0_nil _ _,ByR.nil _ _ _ nilB,hh▸hV,NewB.nil _ _ _,NewB.nil _ _ _⟩
 clear hask hW1 hh b1 x1 z1 hlt1 hX hZ hp hb0 hb hbn hr hx8
 cases hm:mayP p with
 |false=>
  have HC:Hid (chkP p=8):=Lib.hid (by unfold chkP;rw[hm];rfl)
  have HE:Hid (wrtEP p bn=8):=Lib.hid (by unfold wrtEP askP;rw[hm];rfl)
  clear hm
  go_enter Tryz.func32,Tryz.ntmps32
  go_wp2_with (first
   |(rw[←HW1.out,←HH.out])
   |(refine wpList_load_row rfl _ _ rfl h rfl _ X (0,0) _ HX1.out Tryz.underlying32 rfl (by rw[HXS.out];exact szPrs) ?_)
   |fail)
  refine HASK.out.mono ?_
  rintro e w2 ⟨rfl,hb2⟩
  have z2:=HZ1.out.below hb2 HLT.out
  have x2:=HX1.out.below hb2 HX1.out.lt
  have hb02:=HB1.out.trans (hb2.mono (by have:=HLT.out;omega))
  rw[HC.out]
  clear x2
  obtain⟨U,hU⟩:∃U,U=w2.setRow (h+1) Z:=⟨_,rfl⟩
  have HU1:Hid (BoxC U (h+1) Z 32):=Lib.hid (by rw[hU];exact z2.row Z)
  have HUB:Hid (Below h w U):=Lib.hid (by rw[hU];exact below_rowC hb02 (by omega) _)
  have HU:=Lib.hid hU;have HZ2:=Lib.hid z2
  clear hU hb2 hb02 z2
  go_wp2_with (first
   |(refine wpList_buildTo rfl 32 #[] rfl (some 15) rfl Z ?_ ?_;focus(simpa[Act.eval]using HB0.out))
   |(refine wpList_store_rowTo rfl _ _ _ rfl rfl (h+1) Z rfl rfl 32 Z HZ2.out (by rw[HZS.out];exact szPrs) rfl HZO.out ?_;rw[←HU.out]))
  refine bodyPost_ret (cell_prs3 rfl _ _ (h+1) Z HZS.out rfl HU1.out) rfl ?_
  rw[HE.out]
  exact HNIL.out U _ (by decide) HUB.out
 |true=>
  have HC:Hid (chkP p=0):=Lib.hid (by unfold chkP;rw[hm];rfl)
  cases ho:p.over with
  |true=>
   have HE:Hid (wrtEP p bn=6):=Lib.hid (by unfold wrtEP askP;rw[hm,ho];rfl)
   have HO:=Lib.hid ho
   clear hm ho
   go_enter Tryz.func32,Tryz.ntmps32
   go_wp2_with (first
    |(rw[←HW1.out,←HH.out])
    |(refine wpList_load_row rfl _ _ rfl h rfl _ X (0,0) _ HX1.out Tryz.underlying32 rfl (by rw[HXS.out];exact szPrs) ?_)
    |fail)
   refine HASK.out.mono ?_
   rintro e w2 ⟨rfl,hb2⟩
   have z2:=HZ1.out.below hb2 HLT.out
   have x2:=HX1.out.below hb2 HX1.out.lt
   have hb02:=HB1.out.trans (hb2.mono (by have:=HLT.out;omega))
   rw[HC.out]
   have k8:w2.cell? ⟨h,8,none⟩=some (.bool true):=by rw[←HO.out];exact x2.cell.trans HX8.out
   clear x2
   obtain⟨U,hU⟩:∃U,U=w2.setRow (h+1) Z:=⟨_,rfl⟩
   have HU1:Hid (BoxC U (h+1) Z 32):=Lib.hid (by rw[hU];exact z2.row Z)
   have HUB:Hid (Below h w U):=Lib.hid (by rw[hU];exact below_rowC hb02 (by omega) _)
   have HU:=Lib.hid hU;have HZ2:=Lib.hid z2
   clear hU hb2 hb02 z2
   go_wp2_with (first
    |(refine wpList_buildTo rfl 32 #[] rfl (some 19) rfl Z ?_ ?_;focus(simpa[Act.eval]using HB0.out))
    |(refine wpList_store_rowTo rfl _ _ _ rfl rfl (h+1) Z rfl rfl 32 Z HZ2.out (by rw[HZS.out];exact szPrs) rfl HZO.out ?_;rw[←HU.out]))
   refine bodyPost_ret (cell_prs3 rfl _ _ (h+1) Z HZS.out rfl HU1.out) rfl ?_
   rw[HE.out]
   exact HNIL.out U _ (by decide) HUB.out
  |false=>
   have HO:=Lib.hid ho
   by_cases hbig:131072<bn
   ·have HE:Hid (wrtEP p bn=4):=Lib.hid (by unfold wrtEP askP;rw[hm,ho];simp;omega)
    have d1:decide ((131072:Int)<(bn:Int))=true:=decide_eq_true (by omega)
    clear hm ho hbig
    go_enter Tryz.func32,Tryz.ntmps32
    go_wp2_with (first
     |(rw[←HW1.out,←HH.out])
     |(refine wpList_load_row rfl _ _ rfl h rfl _ X (0,0) _ HX1.out Tryz.underlying32 rfl (by rw[HXS.out];exact szPrs) ?_)
     |fail)
    refine HASK.out.mono ?_
    rintro e w2 ⟨rfl,hb2⟩
    have z2:=HZ1.out.below hb2 HLT.out
    have x2:=HX1.out.below hb2 HX1.out.lt
    have hb02:=HB1.out.trans (hb2.mono (by have:=HLT.out;omega))
    rw[HC.out]
    have k8:w2.cell? ⟨h,8,none⟩=some (.bool false):=by rw[←HO.out];exact x2.cell.trans HX8.out
    clear x2
    obtain⟨U,hU⟩:∃U,U=w2.setRow (h+1) Z:=⟨_,rfl⟩
    have HU1:Hid (BoxC U (h+1) Z 32):=Lib.hid (by rw[hU];exact z2.row Z)
    have HUB:Hid (Below h w U):=Lib.hid (by rw[hU];exact below_rowC hb02 (by omega) _)
    have HU:=Lib.hid hU;have HZ2:=Lib.hid z2
    clear hU hb2 hb02 z2
    go_wp2_with (first
     |(refine wpList_buildTo rfl 32 #[] rfl (some 23) rfl Z ?_ ?_;focus(simpa[Act.eval]using HB0.out))
     |(refine wpList_store_rowTo rfl _ _ _ rfl rfl (h+1) Z rfl rfl 32 Z HZ2.out (by rw[HZS.out];exact szPrs) rfl HZO.out ?_;rw[←HU.out]))
    refine bodyPost_ret (cell_prs3 rfl _ _ (h+1) Z HZS.out rfl HU1.out) rfl ?_
    rw[HE.out]
    exact HNIL.out U _ (by decide) HUB.out
   ·have HE:Hid (wrtEP p bn=0):=Lib.hid (by unfold wrtEP askP;rw[hm,ho];simp;omega)
    have d1:decide ((131072:Int)<(bn:Int))=false:=decide_eq_false (by omega)
    have gd:GoodP p:=goodP_of hm ho (bytes_of HP.out.hist) (bytes_of HP.out.wait) (bytes_of HP.out.pen)
    have bb:=bytes_of HBB.out
    have hsty:=mayS_rng gd.sty
    have hrg:r.1.hist.length≤2000000∧r.1.wait.length≤2000000∧r.1.pen.length≤2000000:=by
     rw[HRR.out]
     have g2:=flushed_good gd
     have h1':=g2.1.hist;have h2':=g2.1.wait;have h3':=g2.1.len;have h4':=g2.1.k7;have h5':=g2.2.2.2.1
     have h6':(flushedP p).1.s=p.s:=rfl
     exact⟨by omega,by omega,by omega⟩
    have HRG:=Lib.hid hrg
    have HST:Hid (∀(V:World) (g:Nat) (Ah:Option Addr) (hc:Nat) (Aw:Option Addr) (wc:Nat) (B:Nat),Und V B g {p with wait:=p.wait++b} [] Ah hc Aw wc Ap pc none 0→Calls Tryz.prog 33 #[.pointer (some ⟨g,0,none⟩)] V fun e w'=>e=.returned (.tuple #[])∧(∃Ah' hc' Aw' wc' Ap' pc' Ao' oc',Und w' B g r.1 r.2 Ah' hc' Aw' wc' Ap' pc' Ao' oc')∧Below B V w'):=Lib.hid fun V g Ah hc Aw wc B UV=>by
     rw[HRR.out]
     rw[hnil,List.append_nil]at UV
     have:=pflush_any V B g p [] Ah hc Aw wc Ap pc none 0 UV gd (by show 0≤_;omega)
     rwa[List.nil_append]at this
    have HBE:Hid (∀V,Below h w V→Calls Tryz.prog 28 #[.agg X,.slice Ab bn bc] V fun e w'=>∃g Ah' hc' Aw' wc',e=.returned (.pointer (some ⟨g,0,none⟩))∧Und w' V.heap.size g {p with wait:=p.wait++b} [] Ah' hc' Aw' wc' Ap pc none 0∧Below V.heap.size V w'):=Lib.hid fun V hV=>by
     rw[HXX.out,HBN.out]
     rw[HH.out]at hV
     exact pbegin_any V p Ah hc Aw wc Ap pc (HP.out.on hV) Ab bc b ((HBB.out.below hV (Nat.le_refl _)).more hV.size) h1 h2 h3
    clear hm ho hbig gd bb hsty hrg h1 h2 h3
    go_enter Tryz.func32,Tryz.ntmps32
    go_wp2_with (first
     |(rw[←HW1.out,←HH.out])
     |(refine wpList_load_row rfl _ _ rfl h rfl _ X (0,0) _ HX1.out Tryz.underlying32 rfl (by rw[HXS.out];exact szPrs) ?_)
     |fail)
    refine HASK.out.mono ?_
    rintro e w2 ⟨rfl,hb2⟩
    have z2:=HZ1.out.below hb2 HLT.out
    have x2:=HX1.out.below hb2 HX1.out.lt
    have hb02:=HB1.out.trans (hb2.mono (by have:=HLT.out;omega))
    rw[HC.out]
    have k8:w2.cell? ⟨h,8,none⟩=some (.bool false):=by rw[←HO.out];exact x2.cell.trans HX8.out
    have HBE2:=Lib.hid (HBE.out w2 hb02)
    have HX2:=Lib.hid x2;have HZ2:=Lib.hid z2;have HB2:=Lib.hid hb02
    clear hb2 hb02 z2 x2
    go_wp2_with (first
     |(refine wpList_load_row rfl _ _ rfl h rfl _ X (0,0) _ HX2.out Tryz.underlying32 rfl (by rw[HXS.out];exact szPrs) ?_)
     |fail)
    refine HBE2.out.mono ?_
    rintro e w3 ⟨g,A1,k1,A2,k2,rfl,U3,hb3⟩
    have HS3:=Lib.hid (HST.out w3 g A1 k1 A2 k2 w2.heap.size U3)
    have HZ3:=Lib.hid (HZ2.out.below hb3 HZ2.out.lt)
    have HB3:=Lib.hid hb3
    clear U3 hb3
    go_wp2_with fail
    refine HS3.out.mono ?_
    rintro e w4 ⟨rfl,⟨A3,k3,A4,k4,A5,k5,A6,k6,U4⟩,hb4⟩
    have hans:=panswer_any w4 w2.heap.size g r.1 r.2 A3 k3 A4 k4 A5 k5 A6 k6 U4 HRG.out.1 HRG.out.2.1 HRG.out.2.2
    have HAN:=Lib.hid hans
    have HZ4:=Lib.hid (HZ3.out.below hb4 HZ2.out.lt)
    have HB4:=Lib.hid (HB3.out.trans hb4)
    clear hans U4 hb4 HS3
    go_wp2_with fail
    refine HAN.out.mono ?_
    rintro e w5 ⟨A7,k7,A8,k8',A9,k9,rfl,r5,ro5,hb5,n7,n8⟩
    have z5:=HZ4.out.below hb5 HZ2.out.lt
    have hb05:=HB2.out.trans ((HB4.out.trans hb5).mono (by have:=HZ2.out.lt;omega))
    obtain⟨Y0,hY0⟩:∃Y,Y=prsA r.1 A7 k7 A8 k8' A9 k9:=⟨_,rfl⟩
    obtain⟨lo,hlo⟩:∃x,x=r.2.length:=⟨_,rfl⟩
    obtain⟨wC,hwC⟩:∃W,W=w5.setRow (h+1) Y0:=⟨_,rfl⟩
    have HU1:Hid (BoxC wC (h+1) Y0 32):=Lib.hid (by rw[hwC];exact z5.row Y0)
    have HUB:Hid (Below h w wC):=Lib.hid (by rw[hwC];exact below_rowC hb05 (by omega) _)
    have kk:∀{A:Option Addr} {n c:Nat} {f:Nat→Nat},ByR w5 w5.heap.size A n c f→ByR wC wC.heap.size A n c f:=fun{A n c f} q=>by
     rw[hwC,size_setRow];exact q.rowBox z5 HZN.out Y0
    have nn:∀{A:Option Addr} {n:Nat},NewB w5 w2.heap.size A n→NewB wC w.heap.size A n:=fun{A n} q h0=>by
     obtain⟨gg,o,cur,e1,e2,e3⟩:=q h0
     have hs2:=HZ2.out.lt
     have hs1:=HH.out
     refine⟨gg,o,cur,e1,by omega,?_⟩
     rw[hwC,setRow_other _ _ _ _ (by omega)];exact e3
    have HEND:Hid (PrsOut w wC (.returned (.tuple #[.agg Y0,.slice A6 lo k6,.int .i64 0])) r 0):=Lib.hid ⟨A7,k7,A8,k8',A9,k9,A6,k6,by rw[hY0,hlo],⟨kk r5.hist,kk r5.wait,kk r5.pen⟩,kk ro5,HH.out▸HUB.out,nn n7,nn n8⟩
    have HY0S:Hid (Y0.size=9):=Lib.hid (by rw[hY0];rfl)
    have HY0O:Hid (Y0.all (·.oneCell')=true):=Lib.hid (by rw[hY0];exact prsA_one ..)
    have HZ5:=Lib.hid z5;have HWC:=Lib.hid hwC
    rw[←hY0,←hlo]
    clear hwC z5 hb5 hb05 r5 ro5 n7 n8 kk nn hY0 hlo HAN
    go_wp2_with (refine wpList_store_rowTo rfl _ _ _ rfl rfl (h+1) Y0 rfl rfl 32 Z HZ5.out (by rw[HY0S.out];exact szPrs) (by rw[HZS.out,HY0S.out]) HY0O.out ?_;rw[←HWC.out])
    refine bodyPost_ret (cell_prs3 rfl _ _ (h+1) Y0 HY0S.out rfl HU1.out) rfl ?_
    rw[HE.out]
    unfold ansP
    rw[if_pos rfl]
    exact HEND.out
theorem after_finish(hchk:PCheckCon)(w:World)(p:Prs)(Ah:Option Addr)(hc:Nat)(Aw:Option Addr)(wc:Nat)(Ap:Option Addr)(pc:Nat)(hp:PrsR w w.heap.size p Ah hc Aw wc Ap pc)(h1:p.hist.length≤1000000)(h2:p.wait.length≤1000000)(Ab:Option Addr)(bc:Nat)(b:List Nat)(hb:ByR w w.heap.size Ab b.length bc (lst b))(h3:b.length≤1000000)(hnil:b=[]):
  Calls Tryz.prog 32 #[.agg (prsA p Ah hc Aw wc Ap pc),.slice Ab b.length bc,.func (.func 30) #[] #[]] w fun e w'=>PrsOut w w' e (ansP (wrtEP p b.length) (finP p)) (wrtEP p b.length):=by
 obtain⟨h,hh⟩:∃h,h=w.heap.size:=⟨_,rfl⟩
 obtain⟨X,hX⟩:∃X,X=prsA p Ah hc Aw wc Ap pc:=⟨_,rfl⟩
 rw[←hX]
 obtain⟨Z,hZ⟩:∃Z,Z=prsA (begP 0 0 0 false) none 0 none 0 none 0:=⟨_,rfl⟩
 have hz:=(zero_of_info zero_prs).1
 have hb0:=built_prs0
 rw[←hZ]at hz hb0
 obtain⟨W1,hW1⟩:∃W,W=(w.alloc (.cells X 32)).alloc (.cells Z 32):=⟨_,rfl⟩
 have b1:Below h w W1:=by rw[hW1,hh];exact((Below.refl _ _).alloc (Nat.le_refl _) _).alloc (by simp) _
 have x1:BoxC W1 h X 32:=by rw[hW1,hh];exact(BoxC.new w _ _).old _
 have z1:BoxC W1 (h+1) Z 32:=by
  rw[hW1,hh];have:=BoxC.new (w.alloc (.cells X 32)) Z 32
  rwa[World.size_alloc]at this
 have hlt1:h+1<W1.heap.size:=z1.lt
 have hask:=hchk W1 p Ah hc Aw wc Ap pc (hp.on (hh▸b1))
 rw[←hX]at hask
 obtain⟨bn,hbn⟩:∃x,x=b.length:=⟨_,rfl⟩
 obtain⟨r,hr⟩:∃r,r=finP p:=⟨_,rfl⟩
 rw[←hr,←hbn]
 have hx8:X[8]?=some (.bool p.over):=by rw[hX];rfl
 have HASK:=Lib.hid hask;have HW1:=Lib.hid hW1;have HH:=Lib.hid hh;have HB1:=Lib.hid b1;have HX1:=Lib.hid x1;have HZ1:=Lib.hid z1;have HLT:=Lib.hid hlt1;have HXX:=Lib.hid hX;have HXS:Hid (X.size=9):=Lib.hid (by rw[hX];rfl);have HZS:Hid (Z.size=9):=Lib.hid (by rw[hZ];rfl);have HZE:=Lib.hid hZ;have HZO:Hid (Z.all (·.oneCell')=true):=Lib.hid (by rw[hZ];exact prsA_one ..);have HZN:Hid (NoB Z):=Lib.hid (by rw[hZ];exact noB_prs _ _ _ _ _ _ _)
 have HP:=Lib.hid hp;have HB0:=Lib.hid hb0;have HBB:=Lib.hid hb;have HX8:=Lib.hid hx8;have HBN:=Lib.hid hbn;have HRR:=Lib.hid hr
 have HNIL:Hid (∀(V:World) (E:Int),E≠0→Below h w V→PrsOut w V (.returned (.tuple #[.agg Z,.slice none 0 0,.int .i64 E])) (ansP E r) E):=Lib.hid fun V E hE hV=>by
  unfold ansP
  rw[if_neg hE]
  exact⟨none,0,none,0,none,0,none,0,by rw[hZ];rfl,prs0_nil _ _,ByR.nil _ _ _ nilB,hh▸hV,NewB.nil _ _ _,NewB.nil _ _ _⟩
 clear hask hW1 hh b1 x1 z1 hlt1 hX hZ hp hb0 hb hbn hr hx8
 cases hm:mayP p with
 |false=>
  have HC:Hid (chkP p=8):=Lib.hid (by unfold chkP;rw[hm];rfl)
  have HE:Hid (wrtEP p bn=8):=Lib.hid (by unfold wrtEP askP;rw[hm];rfl)
  clear hm
  go_enter Tryz.func32,Tryz.ntmps32
  go_wp2_with (first
   |(rw[←HW1.out,←HH.out])
   |(refine wpList_load_row rfl _ _ rfl h rfl _ X (0,0) _ HX1.out Tryz.underlying32 rfl (by rw[HXS.out];exact szPrs) ?_)
   |fail)
  refine HASK.out.mono ?_
  rintro e w2 ⟨rfl,hb2⟩
  have z2:=HZ1.out.below hb2 HLT.out
  have x2:=HX1.out.below hb2 HX1.out.lt
  have hb02:=HB1.out.trans (hb2.mono (by have:=HLT.out;omega))
  rw[HC.out]
  clear x2
  obtain⟨U,hU⟩:∃U,U=w2.setRow (h+1) Z:=⟨_,rfl⟩
  have HU1:Hid (BoxC U (h+1) Z 32):=Lib.hid (by rw[hU];exact z2.row Z)
  have HUB:Hid (Below h w U):=Lib.hid (by rw[hU];exact below_rowC hb02 (by omega) _)
  have HU:=Lib.hid hU;have HZ2:=Lib.hid z2
  clear hU hb2 hb02 z2
  go_wp2_with (first
   |(refine wpList_buildTo rfl 32 #[] rfl (some 15) rfl Z ?_ ?_;focus(simpa[Act.eval]using HB0.out))
   |(refine wpList_store_rowTo rfl _ _ _ rfl rfl (h+1) Z rfl rfl 32 Z HZ2.out (by rw[HZS.out];exact szPrs) rfl HZO.out ?_;rw[←HU.out]))
  refine bodyPost_ret (cell_prs3 rfl _ _ (h+1) Z HZS.out rfl HU1.out) rfl ?_
  rw[HE.out]
  exact HNIL.out U _ (by decide) HUB.out
 |true=>
  have HC:Hid (chkP p=0):=Lib.hid (by unfold chkP;rw[hm];rfl)
  cases ho:p.over with
  |true=>
   have HE:Hid (wrtEP p bn=6):=Lib.hid (by unfold wrtEP askP;rw[hm,ho];rfl)
   have HO:=Lib.hid ho
   clear hm ho
   go_enter Tryz.func32,Tryz.ntmps32
   go_wp2_with (first
    |(rw[←HW1.out,←HH.out])
    |(refine wpList_load_row rfl _ _ rfl h rfl _ X (0,0) _ HX1.out Tryz.underlying32 rfl (by rw[HXS.out];exact szPrs) ?_)
    |fail)
   refine HASK.out.mono ?_
   rintro e w2 ⟨rfl,hb2⟩
   have z2:=HZ1.out.below hb2 HLT.out
   have x2:=HX1.out.below hb2 HX1.out.lt
   have hb02:=HB1.out.trans (hb2.mono (by have:=HLT.out;omega))
   rw[HC.out]
   have k8:w2.cell? ⟨h,8,none⟩=some (.bool true):=by rw[←HO.out];exact x2.cell.trans HX8.out
   clear x2
   obtain⟨U,hU⟩:∃U,U=w2.setRow (h+1) Z:=⟨_,rfl⟩
   have HU1:Hid (BoxC U (h+1) Z 32):=Lib.hid (by rw[hU];exact z2.row Z)
   have HUB:Hid (Below h w U):=Lib.hid (by rw[hU];exact below_rowC hb02 (by omega) _)
   have HU:=Lib.hid hU;have HZ2:=Lib.hid z2
   clear hU hb2 hb02 z2
   go_wp2_with (first
    |(refine wpList_buildTo rfl 32 #[] rfl (some 19) rfl Z ?_ ?_;focus(simpa[Act.eval]using HB0.out))
    |(refine wpList_store_rowTo rfl _ _ _ rfl rfl (h+1) Z rfl rfl 32 Z HZ2.out (by rw[HZS.out];exact szPrs) rfl HZO.out ?_;rw[←HU.out]))
   refine bodyPost_ret (cell_prs3 rfl _ _ (h+1) Z HZS.out rfl HU1.out) rfl ?_
   rw[HE.out]
   exact HNIL.out U _ (by decide) HUB.out
  |false=>
   have HO:=Lib.hid ho
   by_cases hbig:131072<bn
   ·have HE:Hid (wrtEP p bn=4):=Lib.hid (by unfold wrtEP askP;rw[hm,ho];simp;omega)
    have d1:decide ((131072:Int)<(bn:Int))=true:=decide_eq_true (by omega)
    clear hm ho hbig
    go_enter Tryz.func32,Tryz.ntmps32
    go_wp2_with (first
     |(rw[←HW1.out,←HH.out])
     |(refine wpList_load_row rfl _ _ rfl h rfl _ X (0,0) _ HX1.out Tryz.underlying32 rfl (by rw[HXS.out];exact szPrs) ?_)
     |fail)
    refine HASK.out.mono ?_
    rintro e w2 ⟨rfl,hb2⟩
    have z2:=HZ1.out.below hb2 HLT.out
    have x2:=HX1.out.below hb2 HX1.out.lt
    have hb02:=HB1.out.trans (hb2.mono (by have:=HLT.out;omega))
    rw[HC.out]
    have k8:w2.cell? ⟨h,8,none⟩=some (.bool false):=by rw[←HO.out];exact x2.cell.trans HX8.out
    clear x2
    obtain⟨U,hU⟩:∃U,U=w2.setRow (h+1) Z:=⟨_,rfl⟩
    have HU1:Hid (BoxC U (h+1) Z 32):=Lib.hid (by rw[hU];exact z2.row Z)
    have HUB:Hid (Below h w U):=Lib.hid (by rw[hU];exact below_rowC hb02 (by omega) _)
    have HU:=Lib.hid hU;have HZ2:=Lib.hid z2
    clear hU hb2 hb02 z2
    go_wp2_with (first
     |(refine wpList_buildTo rfl 32 #[] rfl (some 23) rfl Z ?_ ?_;focus(simpa[Act.eval]using HB0.out))
     |(refine wpList_store_rowTo rfl _ _ _ rfl rfl (h+1) Z rfl rfl 32 Z HZ2.out (by rw[HZS.out];exact szPrs) rfl HZO.out ?_;rw[←HU.out]))
    refine bodyPost_ret (cell_prs3 rfl _ _ (h+1) Z HZS.out rfl HU1.out) rfl ?_
    rw[HE.out]
    exact HNIL.out U _ (by decide) HUB.out
   ·have HE:Hid (wrtEP p bn=0):=Lib.hid (by unfold wrtEP askP;rw[hm,ho];simp;omega)
    have d1:decide ((131072:Int)<(bn:Int))=false:=decide_eq_false (by omega)
    have gd:GoodP p:=goodP_of hm ho (bytes_of HP.out.hist) (bytes_of HP.out.wait) (bytes_of HP.out.pen)
    have bb:=bytes_of HBB.out
    have hsty:=mayS_rng gd.sty
    have hrg:r.1.hist.length≤2000000∧r.1.wait.length≤2000000∧r.1.pen.length≤2000000:=by
     rw[HRR.out]
     have g2:=fin_good gd
     have h1':=(mayP_is g2.1).2.1
     have h6':(finP p).1.s=p.s:=rfl
     have h7':(finP p).1.wait=[]:=rfl
     have h8':(finP p).1.pen=[]:=by rw[fin_is _ rfl]
     exact⟨by omega,by rw[h7'];exact Nat.zero_le _,by rw[h8'];exact Nat.zero_le _⟩
    have HRG:=Lib.hid hrg
    have HST:Hid (∀(V:World) (g:Nat) (Ah:Option Addr) (hc:Nat) (Aw:Option Addr) (wc:Nat) (B:Nat),Und V B g {p with wait:=p.wait++b} [] Ah hc Aw wc Ap pc none 0→Calls Tryz.prog 30 #[.pointer (some ⟨g,0,none⟩)] V fun e w'=>e=.returned (.tuple #[])∧(∃Ah' hc' Aw' wc' Ap' pc' Ao' oc',Und w' B g r.1 r.2 Ah' hc' Aw' wc' Ap' pc' Ao' oc')∧Below B V w'):=Lib.hid fun V g Ah hc Aw wc B UV=>by
     rw[HRR.out]
     rw[hnil,List.append_nil]at UV
     have:=pfinish_any V B g p [] Ah hc Aw wc Ap pc none 0 UV gd.w (by have:=gd.wait;omega) (by show 0≤_;omega)
     rwa[List.nil_append]at this
    have HBE:Hid (∀V,Below h w V→Calls Tryz.prog 28 #[.agg X,.slice Ab bn bc] V fun e w'=>∃g Ah' hc' Aw' wc',e=.returned (.pointer (some ⟨g,0,none⟩))∧Und w' V.heap.size g {p with wait:=p.wait++b} [] Ah' hc' Aw' wc' Ap pc none 0∧Below V.heap.size V w'):=Lib.hid fun V hV=>by
     rw[HXX.out,HBN.out]
     rw[HH.out]at hV
     exact pbegin_any V p Ah hc Aw wc Ap pc (HP.out.on hV) Ab bc b ((HBB.out.below hV (Nat.le_refl _)).more hV.size) h1 h2 h3
    clear hm ho hbig gd bb hsty hrg h1 h2 h3
    go_enter Tryz.func32,Tryz.ntmps32
    go_wp2_with (first
     |(rw[←HW1.out,←HH.out])
     |(refine wpList_load_row rfl _ _ rfl h rfl _ X (0,0) _ HX1.out Tryz.underlying32 rfl (by rw[HXS.out];exact szPrs) ?_)
     |fail)
    refine HASK.out.mono ?_
    rintro e w2 ⟨rfl,hb2⟩
    have z2:=HZ1.out.below hb2 HLT.out
    have x2:=HX1.out.below hb2 HX1.out.lt
    have hb02:=HB1.out.trans (hb2.mono (by have:=HLT.out;omega))
    rw[HC.out]
    have k8:w2.cell? ⟨h,8,none⟩=some (.bool false):=by rw[←HO.out];exact x2.cell.trans HX8.out
    have HBE2:=Lib.hid (HBE.out w2 hb02)
    have HX2:=Lib.hid x2;have HZ2:=Lib.hid z2;have HB2:=Lib.hid hb02
    clear hb2 hb02 z2 x2
    go_wp2_with (first
     |(refine wpList_load_row rfl _ _ rfl h rfl _ X (0,0) _ HX2.out Tryz.underlying32 rfl (by rw[HXS.out];exact szPrs) ?_)
     |fail)
    refine HBE2.out.mono ?_
    rintro e w3 ⟨g,A1,k1,A2,k2,rfl,U3,hb3⟩
    have HS3:=Lib.hid (HST.out w3 g A1 k1 A2 k2 w2.heap.size U3)
    have HZ3:=Lib.hid (HZ2.out.below hb3 HZ2.out.lt)
    have HB3:=Lib.hid hb3
    clear U3 hb3
    go_wp2_with fail
    refine HS3.out.mono ?_
    rintro e w4 ⟨rfl,⟨A3,k3,A4,k4,A5,k5,A6,k6,U4⟩,hb4⟩
    have hans:=panswer_any w4 w2.heap.size g r.1 r.2 A3 k3 A4 k4 A5 k5 A6 k6 U4 HRG.out.1 HRG.out.2.1 HRG.out.2.2
    have HAN:=Lib.hid hans
    have HZ4:=Lib.hid (HZ3.out.below hb4 HZ2.out.lt)
    have HB4:=Lib.hid (HB3.out.trans hb4)
    clear hans U4 hb4 HS3
    go_wp2_with fail
    refine HAN.out.mono ?_
    rintro e w5 ⟨A7,k7,A8,k8',A9,k9,rfl,r5,ro5,hb5,n7,n8⟩
    have z5:=HZ4.out.below hb5 HZ2.out.lt
    have hb05:=HB2.out.trans ((HB4.out.trans hb5).mono (by have:=HZ2.out.lt;omega))
    obtain⟨Y0,hY0⟩:∃Y,Y=prsA r.1 A7 k7 A8 k8' A9 k9:=⟨_,rfl⟩
    obtain⟨lo,hlo⟩:∃x,x=r.2.length:=⟨_,rfl⟩
    obtain⟨wC,hwC⟩:∃W,W=w5.setRow (h+1) Y0:=⟨_,rfl⟩
    have HU1:Hid (BoxC wC (h+1) Y0 32):=Lib.hid (by rw[hwC];exact z5.row Y0)
    have HUB:Hid (Below h w wC):=Lib.hid (by rw[hwC];exact below_rowC hb05 (by omega) _)
    have kk:∀{A:Option Addr} {n c:Nat} {f:Nat→Nat},ByR w5 w5.heap.size A n c f→ByR wC wC.heap.size A n c f:=fun{A n c f} q=>by
     rw[hwC,size_setRow];exact q.rowBox z5 HZN.out Y0
    have nn:∀{A:Option Addr} {n:Nat},NewB w5 w2.heap.size A n→NewB wC w.heap.size A n:=fun{A n} q h0=>by
     obtain⟨gg,o,cur,e1,e2,e3⟩:=q h0
     have hs2:=HZ2.out.lt
     have hs1:=HH.out
     refine⟨gg,o,cur,e1,by omega,?_⟩
     rw[hwC,setRow_other _ _ _ _ (by omega)];exact e3
    have HEND:Hid (PrsOut w wC (.returned (.tuple #[.agg Y0,.slice A6 lo k6,.int .i64 0])) r 0):=Lib.hid ⟨A7,k7,A8,k8',A9,k9,A6,k6,by rw[hY0,hlo],⟨kk r5.hist,kk r5.wait,kk r5.pen⟩,kk ro5,HH.out▸HUB.out,nn n7,nn n8⟩
    have HY0S:Hid (Y0.size=9):=Lib.hid (by rw[hY0];rfl)
    have HY0O:Hid (Y0.all (·.oneCell')=true):=Lib.hid (by rw[hY0];exact prsA_one ..)
    have HZ5:=Lib.hid z5;have HWC:=Lib.hid hwC
    rw[←hY0,←hlo]
    clear hwC z5 hb5 hb05 r5 ro5 n7 n8 kk nn hY0 hlo HAN
    go_wp2_with (refine wpList_store_rowTo rfl _ _ _ rfl rfl (h+1) Y0 rfl rfl 32 Z HZ5.out (by rw[HY0S.out];exact szPrs) (by rw[HZS.out,HY0S.out]) HY0O.out ?_;rw[←HWC.out])
    refine bodyPost_ret (cell_prs3 rfl _ _ (h+1) Y0 HY0S.out rfl HU1.out) rfl ?_
    rw[HE.out]
    unfold ansP
    rw[if_pos rfl]
    exact HEND.out
end Go.Proofs.YtokpcpjnihinfaaGreat
namespace Go.Proofs.YtokpcpjnihinfaaGreat
open Go.RowKit Go.ChangeShapes Go.WideShapes Go.ChangeAt Go.Joins
theorem wrtEP_zero(p:Prs):wrtEP p 0=askP p:=by
 unfold wrtEP
 by_cases h:askP p=0
 ·rw[if_neg (by simpa using h),h];rfl
 ·rw[if_pos h]
theorem write_pcon(hchk:PCheckCon):PWriteCon:=by
 intro w p Ah hc Aw wc Ap pc Ab bc b hp hb h1 h2 h3
 obtain⟨h,hh⟩:∃h,h=w.heap.size:=⟨_,rfl⟩
 obtain⟨X,hX⟩:∃X,X=prsA p Ah hc Aw wc Ap pc:=⟨_,rfl⟩
 rw[←hX]
 obtain⟨Z,hZ⟩:∃Z,Z=prsA (begP 0 0 0 false) none 0 none 0 none 0:=⟨_,rfl⟩
 have hz:=(zero_of_info zero_prs).1
 rw[←hZ]at hz
 obtain⟨W1,hW1⟩:∃W,W=(w.alloc (.cells X 32)).alloc (.cells Z 32):=⟨_,rfl⟩
 have b1:Below h w W1:=by rw[hW1,hh];exact((Below.refl _ _).alloc (Nat.le_refl _) _).alloc (by simp) _
 have x1:BoxC W1 h X 32:=by rw[hW1,hh];exact(BoxC.new w _ _).old _
 have z1:BoxC W1 (h+1) Z 32:=by
  rw[hW1,hh];have:=BoxC.new (w.alloc (.cells X 32)) Z 32
  rwa[World.size_alloc]at this
 have hlt1:h+1<W1.heap.size:=z1.lt
 have haf:=after_write hchk W1 p Ah hc Aw wc Ap pc (hp.on (hh▸b1)) h1 h2 Ab bc b ((hb.below (hh▸b1) (Nat.le_refl _)).more (hh▸b1).size) h3
 obtain⟨R,hR⟩:∃R,R=ansP (wrtEP p b.length) (writeP p b):=⟨_,rfl⟩
 obtain⟨E,hE⟩:∃E,E=wrtEP p b.length:=⟨_,rfl⟩
 rw[←hR,←hE]at haf⊢
 rw[←hX]at haf
 obtain⟨bn,hbn⟩:∃x,x=b.length:=⟨_,rfl⟩
 rw[←hbn]at haf⊢
 clear hb hbn h1 h2 h3
 have HAF:=Lib.hid haf;have HW1:=Lib.hid hW1;have HH:=Lib.hid hh;have HB1:=Lib.hid b1;have HX1:=Lib.hid x1;have HZ1:=Lib.hid z1;have HLT:=Lib.hid hlt1;have HXS:Hid (X.size=9):=Lib.hid (by rw[hX];rfl);have HZS:Hid (Z.size=9):=Lib.hid (by rw[hZ];rfl);have HZN:Hid (NoB Z):=Lib.hid (by rw[hZ];exact noB_prs _ _ _ _ _ _ _)
 clear haf hW1 hh b1 x1 z1 hlt1 hX hZ hR hE hp
 go_enter Tryz.func12,Tryz.ntmps12
 go_wp2_with (first
  |(rw[←HW1.out,←HH.out])
  |(refine wpList_load_row rfl _ _ rfl h rfl _ X (0,0) _ HX1.out Tryz.underlying32 rfl (by rw[HXS.out];exact szPrs) ?_)
  |fail)
 refine HAF.out.mono ?_
 rintro e w5 ⟨A7,k7,A8,k8',A9,k9,A6,k6,rfl,r5,ro5,hb5,n7,n8⟩
 have z5:=HZ1.out.below hb5 HLT.out
 have hb05:=HB1.out.trans (hb5.mono (by have:=HLT.out;omega))
 obtain⟨Y0,hY0⟩:∃Y,Y=prsA R.1 A7 k7 A8 k8' A9 k9:=⟨_,rfl⟩
 obtain⟨lo,hlo⟩:∃x,x=R.2.length:=⟨_,rfl⟩
 obtain⟨wC,hwC⟩:∃W,W=w5.setRow (h+1) Y0:=⟨_,rfl⟩
 have HU1:Hid (BoxC wC (h+1) Y0 32):=Lib.hid (by rw[hwC];exact z5.row Y0)
 have HUB:Hid (Below h w wC):=Lib.hid (by rw[hwC];exact below_rowC hb05 (by omega) _)
 have kk:∀{A:Option Addr} {n c:Nat} {f:Nat→Nat},ByR w5 w5.heap.size A n c f→ByR wC wC.heap.size A n c f:=fun{A n c f} q=>by
  rw[hwC,size_setRow];exact q.rowBox z5 HZN.out Y0
 have nn:∀{A:Option Addr} {n:Nat},NewB w5 W1.heap.size A n→NewB wC w.heap.size A n:=fun{A n} q h0=>by
  obtain⟨gg,o,cur,e1,e2,e3⟩:=q h0
  have hs2:=HLT.out
  have hs1:=HH.out
  refine⟨gg,o,cur,e1,by omega,?_⟩
  rw[hwC,setRow_other _ _ _ _ (by omega)];exact e3
 have HEND:Hid (PrsOut w wC (.returned (.tuple #[.agg Y0,.slice A6 lo k6,.int .i64 E])) R E):=Lib.hid ⟨A7,k7,A8,k8',A9,k9,A6,k6,by rw[hY0,hlo],⟨kk r5.hist,kk r5.wait,kk r5.pen⟩,kk ro5,HH.out▸HUB.out,nn n7,nn n8⟩
 have HY0S:Hid (Y0.size=9):=Lib.hid (by rw[hY0];rfl)
 have HY0O:Hid (Y0.all (·.oneCell')=true):=Lib.hid (by rw[hY0];exact prsA_one ..)
 have HZ5:=Lib.hid z5;have HWC:=Lib.hid hwC
 rw[←hY0,←hlo]
 clear hwC z5 hb5 hb05 r5 ro5 n7 n8 kk nn hY0 hlo HAF
 go_wp2_with (refine wpList_store_rowTo rfl _ _ _ rfl rfl (h+1) Y0 rfl rfl 32 Z HZ5.out (by rw[HY0S.out];exact szPrs) (by rw[HZS.out,HY0S.out]) HY0O.out ?_;rw[←HWC.out])
 refine bodyPost_ret (cell_prs3 rfl _ _ (h+1) Y0 HY0S.out rfl HU1.out) rfl ?_
 exact HEND.out
theorem flush_pcon(hchk:PCheckCon):PFlushCon:=by
 intro w p Ah hc Aw wc Ap pc hp h1 h2
 obtain⟨h,hh⟩:∃h,h=w.heap.size:=⟨_,rfl⟩
 obtain⟨X,hX⟩:∃X,X=prsA p Ah hc Aw wc Ap pc:=⟨_,rfl⟩
 rw[←hX]
 obtain⟨Z,hZ⟩:∃Z,Z=prsA (begP 0 0 0 false) none 0 none 0 none 0:=⟨_,rfl⟩
 have hz:=(zero_of_info zero_prs).1
 rw[←hZ]at hz
 obtain⟨W1,hW1⟩:∃W,W=(w.alloc (.cells X 32)).alloc (.cells Z 32):=⟨_,rfl⟩
 have b1:Below h w W1:=by rw[hW1,hh];exact((Below.refl _ _).alloc (Nat.le_refl _) _).alloc (by simp) _
 have x1:BoxC W1 h X 32:=by rw[hW1,hh];exact(BoxC.new w _ _).old _
 have z1:BoxC W1 (h+1) Z 32:=by
  rw[hW1,hh];have:=BoxC.new (w.alloc (.cells X 32)) Z 32
  rwa[World.size_alloc]at this
 have hlt1:h+1<W1.heap.size:=z1.lt
 have haf:=after_flush hchk W1 p Ah hc Aw wc Ap pc (hp.on (hh▸b1)) h1 h2 none 0 [] (ByR.nil _ _ _ nilB) (by show 0≤_;omega) rfl
 simp only[List.length_nil,wrtEP_zero]at haf
 obtain⟨R,hR⟩:∃R,R=ansP (askP p) (flushedP p):=⟨_,rfl⟩
 obtain⟨E,hE⟩:∃E,E=askP p:=⟨_,rfl⟩
 rw[←hR,←hE]at haf⊢
 rw[←hX]at haf
 have HAF:=Lib.hid haf;have HW1:=Lib.hid hW1;have HH:=Lib.hid hh;have HB1:=Lib.hid b1;have HX1:=Lib.hid x1;have HZ1:=Lib.hid z1;have HLT:=Lib.hid hlt1;have HXS:Hid (X.size=9):=Lib.hid (by rw[hX];rfl);have HZS:Hid (Z.size=9):=Lib.hid (by rw[hZ];rfl);have HZN:Hid (NoB Z):=Lib.hid (by rw[hZ];exact noB_prs _ _ _ _ _ _ _)
 clear haf hW1 hh b1 x1 z1 hlt1 hX hZ hR hE hp
 go_enter Tryz.func13,Tryz.ntmps13
 go_wp2_with (first
  |(rw[←HW1.out,←HH.out])
  |(refine wpList_load_row rfl _ _ rfl h rfl _ X (0,0) _ HX1.out Tryz.underlying32 rfl (by rw[HXS.out];exact szPrs) ?_)
  |fail)
 refine HAF.out.mono ?_
 rintro e w5 ⟨A7,k7,A8,k8',A9,k9,A6,k6,rfl,r5,ro5,hb5,n7,n8⟩
 have z5:=HZ1.out.below hb5 HLT.out
 have hb05:=HB1.out.trans (hb5.mono (by have:=HLT.out;omega))
 obtain⟨Y0,hY0⟩:∃Y,Y=prsA R.1 A7 k7 A8 k8' A9 k9:=⟨_,rfl⟩
 obtain⟨lo,hlo⟩:∃x,x=R.2.length:=⟨_,rfl⟩
 obtain⟨wC,hwC⟩:∃W,W=w5.setRow (h+1) Y0:=⟨_,rfl⟩
 have HU1:Hid (BoxC wC (h+1) Y0 32):=Lib.hid (by rw[hwC];exact z5.row Y0)
 have HUB:Hid (Below h w wC):=Lib.hid (by rw[hwC];exact below_rowC hb05 (by omega) _)
 have kk:∀{A:Option Addr} {n c:Nat} {f:Nat→Nat},ByR w5 w5.heap.size A n c f→ByR wC wC.heap.size A n c f:=fun{A n c f} q=>by
  rw[hwC,size_setRow];exact q.rowBox z5 HZN.out Y0
 have nn:∀{A:Option Addr} {n:Nat},NewB w5 W1.heap.size A n→NewB wC w.heap.size A n:=fun{A n} q h0=>by
  obtain⟨gg,o,cur,e1,e2,e3⟩:=q h0
  have hs2:=HLT.out
  have hs1:=HH.out
  refine⟨gg,o,cur,e1,by omega,?_⟩
  rw[hwC,setRow_other _ _ _ _ (by omega)];exact e3
 have HEND:Hid (PrsOut w wC (.returned (.tuple #[.agg Y0,.slice A6 lo k6,.int .i64 E])) R E):=Lib.hid ⟨A7,k7,A8,k8',A9,k9,A6,k6,by rw[hY0,hlo],⟨kk r5.hist,kk r5.wait,kk r5.pen⟩,kk ro5,HH.out▸HUB.out,nn n7,nn n8⟩
 have HY0S:Hid (Y0.size=9):=Lib.hid (by rw[hY0];rfl)
 have HY0O:Hid (Y0.all (·.oneCell')=true):=Lib.hid (by rw[hY0];exact prsA_one ..)
 have HZ5:=Lib.hid z5;have HWC:=Lib.hid hwC
 rw[←hY0,←hlo]
 clear hwC z5 hb5 hb05 r5 ro5 n7 n8 kk nn hY0 hlo HAF
 go_wp2_with (refine wpList_store_rowTo rfl _ _ _ rfl rfl (h+1) Y0 rfl rfl 32 Z HZ5.out (by rw[HY0S.out];exact szPrs) (by rw[HZS.out,HY0S.out]) HY0O.out ?_;rw[←HWC.out])
 refine bodyPost_ret (cell_prs3 rfl _ _ (h+1) Y0 HY0S.out rfl HU1.out) rfl ?_
 exact HEND.out
theorem finish_pcon(hchk:PCheckCon):PFinishCon:=by
 intro w p Ah hc Aw wc Ap pc hp h1 h2
 obtain⟨h,hh⟩:∃h,h=w.heap.size:=⟨_,rfl⟩
 obtain⟨X,hX⟩:∃X,X=prsA p Ah hc Aw wc Ap pc:=⟨_,rfl⟩
 rw[←hX]
 obtain⟨Z,hZ⟩:∃Z,Z=prsA (begP 0 0 0 false) none 0 none 0 none 0:=⟨_,rfl⟩
 have hz:=(zero_of_info zero_prs).1
 rw[←hZ]at hz
 obtain⟨W1,hW1⟩:∃W,W=(w.alloc (.cells X 32)).alloc (.cells Z 32):=⟨_,rfl⟩
 have b1:Below h w W1:=by rw[hW1,hh];exact((Below.refl _ _).alloc (Nat.le_refl _) _).alloc (by simp) _
 have x1:BoxC W1 h X 32:=by rw[hW1,hh];exact(BoxC.new w _ _).old _
 have z1:BoxC W1 (h+1) Z 32:=by
  rw[hW1,hh];have:=BoxC.new (w.alloc (.cells X 32)) Z 32
  rwa[World.size_alloc]at this
 have hlt1:h+1<W1.heap.size:=z1.lt
 have haf:=after_finish hchk W1 p Ah hc Aw wc Ap pc (hp.on (hh▸b1)) h1 h2 none 0 [] (ByR.nil _ _ _ nilB) (by show 0≤_;omega) rfl
 simp only[List.length_nil,wrtEP_zero]at haf
 obtain⟨R,hR⟩:∃R,R=ansP (askP p) (finP p):=⟨_,rfl⟩
 obtain⟨E,hE⟩:∃E,E=askP p:=⟨_,rfl⟩
 rw[←hR,←hE]at haf⊢
 rw[←hX]at haf
 have HAF:=Lib.hid haf;have HW1:=Lib.hid hW1;have HH:=Lib.hid hh;have HB1:=Lib.hid b1;have HX1:=Lib.hid x1;have HZ1:=Lib.hid z1;have HLT:=Lib.hid hlt1;have HXS:Hid (X.size=9):=Lib.hid (by rw[hX];rfl);have HZS:Hid (Z.size=9):=Lib.hid (by rw[hZ];rfl);have HZN:Hid (NoB Z):=Lib.hid (by rw[hZ];exact noB_prs _ _ _ _ _ _ _)
 clear haf hW1 hh b1 x1 z1 hlt1 hX hZ hR hE hp
 go_enter Tryz.func14,Tryz.ntmps14
 go_wp2_with (first
  |(rw[←HW1.out,←HH.out])
  |(refine wpList_load_row rfl _ _ rfl h rfl _ X (0,0) _ HX1.out Tryz.underlying32 rfl (by rw[HXS.out];exact szPrs) ?_)
  |fail)
 refine HAF.out.mono ?_
 rintro e w5 ⟨A7,k7,A8,k8',A9,k9,A6,k6,rfl,r5,ro5,hb5,n7,n8⟩
 have z5:=HZ1.out.below hb5 HLT.out
 have hb05:=HB1.out.trans (hb5.mono (by have:=HLT.out;omega))
 obtain⟨Y0,hY0⟩:∃Y,Y=prsA R.1 A7 k7 A8 k8' A9 k9:=⟨_,rfl⟩
 obtain⟨lo,hlo⟩:∃x,x=R.2.length:=⟨_,rfl⟩
 obtain⟨wC,hwC⟩:∃W,W=w5.setRow (h+1) Y0:=⟨_,rfl⟩
 have HU1:Hid (BoxC wC (h+1) Y0 32):=Lib.hid (by rw[hwC];exact z5.row Y0)
 have HUB:Hid (Below h w wC):=Lib.hid (by rw[hwC];exact below_rowC hb05 (by omega) _)
 have kk:∀{A:Option Addr} {n c:Nat} {f:Nat→Nat},ByR w5 w5.heap.size A n c f→ByR wC wC.heap.size A n c f:=fun{A n c f} q=>by
  rw[hwC,size_setRow];exact q.rowBox z5 HZN.out Y0
 have nn:∀{A:Option Addr} {n:Nat},NewB w5 W1.heap.size A n→NewB wC w.heap.size A n:=fun{A n} q h0=>by
  obtain⟨gg,o,cur,e1,e2,e3⟩:=q h0
  have hs2:=HLT.out
  have hs1:=HH.out
  refine⟨gg,o,cur,e1,by omega,?_⟩
  rw[hwC,setRow_other _ _ _ _ (by omega)];exact e3
 have HEND:Hid (PrsOut w wC (.returned (.tuple #[.agg Y0,.slice A6 lo k6,.int .i64 E])) R E):=Lib.hid ⟨A7,k7,A8,k8',A9,k9,A6,k6,by rw[hY0,hlo],⟨kk r5.hist,kk r5.wait,kk r5.pen⟩,kk ro5,HH.out▸HUB.out,nn n7,nn n8⟩
 have HY0S:Hid (Y0.size=9):=Lib.hid (by rw[hY0];rfl)
 have HY0O:Hid (Y0.all (·.oneCell')=true):=Lib.hid (by rw[hY0];exact prsA_one ..)
 have HZ5:=Lib.hid z5;have HWC:=Lib.hid hwC
 rw[←hY0,←hlo]
 clear hwC z5 hb5 hb05 r5 ro5 n7 n8 kk nn hY0 hlo HAF
 go_wp2_with (refine wpList_store_rowTo rfl _ _ _ rfl rfl (h+1) Y0 rfl rfl 32 Z HZ5.out (by rw[HY0S.out];exact szPrs) (by rw[HZS.out,HY0S.out]) HY0O.out ?_;rw[←HWC.out])
 refine bodyPost_ret (cell_prs3 rfl _ _ (h+1) Y0 HY0S.out rfl HU1.out) rfl ?_
 exact HEND.out
theorem all_pcon(hnew:PNewCon):PAllCon:=by
 intro w s hq m z Ab bc b hb h3
 obtain⟨h,hh⟩:∃h,h=w.heap.size:=⟨_,rfl⟩
 obtain⟨SA,hSA⟩:∃S:Array Value,S=#[.int .i64 s,.int .i64 hq,.int .i64 m,.bool z]:=⟨_,rfl⟩
 obtain⟨W1,hW1⟩:∃W,W=w.alloc (.cells SA 27):=⟨_,rfl⟩
 have b1:Below h w W1:=by rw[hW1,hh];exact(Below.refl _ _).alloc (Nat.le_refl _) _
 have x1:BoxC W1 h SA 27:=by rw[hW1,hh];exact BoxC.new w _ _
 have hnw:=hnew W1 s hq m z
 rw[←hSA]at hnw⊢
 obtain⟨Z,hZ⟩:∃Z,Z=prsA (begP 0 0 0 false) none 0 none 0 none 0:=⟨_,rfl⟩
 have hz:=(zero_of_info zero_prs).1
 rw[←hZ]at hz
 obtain⟨bn,hbn⟩:∃x,x=b.length:=⟨_,rfl⟩
 obtain⟨E1,hE1⟩:∃E,E=begE s hq m:=⟨_,rfl⟩
 rw[←hE1]at hnw
 have HSS:Hid (SA.size=4):=Lib.hid (by rw[hSA];rfl)
 have HNW:=Lib.hid hnw;have HW1:=Lib.hid hW1;have HH:=Lib.hid hh;have HB1:=Lib.hid b1;have HX1:=Lib.hid x1;have HZE:=Lib.hid hZ;have HBB:=Lib.hid hb;have HBN:=Lib.hid hbn
 have HZS:Hid (Z.size=9):=Lib.hid (by rw[hZ];rfl)
 rw[←hbn]
 have stA:∀(K:Nat),True:=fun _=>trivial
 by_cases hm:mayS s hq m=false
 ·have e1:E1=8:=by rw[hE1];unfold begE;rw[if_pos hm]
  have eA:allE s hq m bn=8:=by unfold allE;rw[if_pos hm]
  subst e1
  rw[eA]
  clear hnw hW1 hh b1 x1 hZ hb hbn hE1 hm eA stA hSA
  go_enter Tryz.func9,Tryz.ntmps9
  go_wp2_with (first
   |(rw[←HW1.out,←HH.out])
   |(refine wpList_load_row rfl _ _ rfl h rfl _ SA (0,0) _ HX1.out Tryz.underlying27 rfl (by rw[HSS.out];exact szSty12) ?_)
   |fail)
  refine HNW.out.mono ?_
  rintro e w2 ⟨A1,k1,A2,k2,A3,k3,rfl,r2,hb2⟩
  obtain⟨Y,hY⟩:∃Y,Y=prsA (begV s hq m z) A1 k1 A2 k2 A3 k3:=⟨_,rfl⟩
  have HYS:Hid (Y.size=9):=Lib.hid (by rw[hY];rfl)
  have HYO:Hid (Y.all (·.oneCell')=true):=Lib.hid (by rw[hY];exact prsA_one ..)
  obtain⟨W3,hW3⟩:∃W,W=mkV w2 Z Y 32:=⟨_,rfl⟩
  have HB3:Hid (Below h w W3):=Lib.hid (by rw[hW3];exact HB1.out.trans ((hb2.trans ((mkV_below _ _ _ _).mono hb2.size)).mono (by have:=HX1.out.lt;omega)))
  have HW3:=Lib.hid hW3
  rw[←hY]
  clear hW3 hb2 r2 hY HNW
  go_wp2_with (refine wpList_store_rowTo rfl _ _ _ rfl rfl w2.heap.size Y rfl rfl 32 Z (heap_alloc_new w2 _) (by rw[HYS.out];exact szPrs) (by rw[HZS.out,HYS.out]) HYO.out ?_;rw[show(w2.alloc (.cells Z 32)).setRow w2.heap.size Y=mkV w2 Z Y 32 from rfl,←HW3.out])
  refine bodyPost_ret (results_tmp2 rfl _ _ _) rfl ?_
  exact⟨none,0,0,rfl,rfl,ByR.nil _ _ _ nilB,by rw[←HH.out];exact HB3.out⟩
 ·have hm2:mayS s hq m=true:=by simpa using hm
  have e1:E1=0:=by rw[hE1];unfold begE;rw[if_neg hm]
  have eV:begV s hq m z=begP s hq m z:=by unfold begV;rw[if_neg hm]
  subst e1
  by_cases hbig:131072<bn
  ·have eA:allE s hq m bn=4:=by unfold allE;rw[if_neg hm,if_pos hbig]
   have d1:decide ((131072:Int)<(bn:Int))=true:=decide_eq_true (by omega)
   rw[eA]
   clear hnw hW1 hh b1 x1 hZ hb hbn hE1 hm eA stA hSA hm2 eV hbig
   go_enter Tryz.func9,Tryz.ntmps9
   go_wp2_with (first
    |(rw[←HW1.out,←HH.out])
    |(refine wpList_load_row rfl _ _ rfl h rfl _ SA (0,0) _ HX1.out Tryz.underlying27 rfl (by rw[HSS.out];exact szSty12) ?_)
    |fail)
   refine HNW.out.mono ?_
   rintro e w2 ⟨A1,k1,A2,k2,A3,k3,rfl,r2,hb2⟩
   obtain⟨Y,hY⟩:∃Y,Y=prsA (begV s hq m z) A1 k1 A2 k2 A3 k3:=⟨_,rfl⟩
   have HYS:Hid (Y.size=9):=Lib.hid (by rw[hY];rfl)
   have HYO:Hid (Y.all (·.oneCell')=true):=Lib.hid (by rw[hY];exact prsA_one ..)
   obtain⟨W3,hW3⟩:∃W,W=mkV w2 Z Y 32:=⟨_,rfl⟩
   have HB3:Hid (Below h w W3):=Lib.hid (by rw[hW3];exact HB1.out.trans ((hb2.trans ((mkV_below _ _ _ _).mono hb2.size)).mono (by have:=HX1.out.lt;omega)))
   have HW3:=Lib.hid hW3
   rw[←hY]
   clear hW3 hb2 r2 hY HNW
   go_wp2_with (refine wpList_store_rowTo rfl _ _ _ rfl rfl w2.heap.size Y rfl rfl 32 Z (heap_alloc_new w2 _) (by rw[HYS.out];exact szPrs) (by rw[HZS.out,HYS.out]) HYO.out ?_;rw[show(w2.alloc (.cells Z 32)).setRow w2.heap.size Y=mkV w2 Z Y 32 from rfl,←HW3.out])
   refine bodyPost_ret (results_tmp2 rfl _ _ _) rfl ?_
   exact⟨none,0,0,rfl,rfl,ByR.nil _ _ _ nilB,by rw[←HH.out];exact HB3.out⟩
  ·have eA:allE s hq m bn=0:=by unfold allE;rw[if_neg hm,if_neg hbig]
   have d1:decide ((131072:Int)<(bn:Int))=false:=decide_eq_false (by omega)
   rw[eA,if_pos rfl]
   have bb:=bytes_of hb
   have gb:=beg_good z hm2
   obtain⟨r,hr⟩:∃r,r=writeP (begP s hq m z) b:=⟨_,rfl⟩
   have hal:allP s hq m z b=r.2++(finP r.1).2:=by rw[hr];rfl
   have g2:=write_good gb bb
   rw[←hr]at g2
   have hrl:r.2.length≤1000000:=by
    obtain⟨_,_,_,_,_,B,q1,q2⟩:=g2
    have hmm:=mayS_rng hm2
    have e1:(begP s hq m z).wait.length=0:=rfl
    have e2:(begP s hq m z).k.toNat=0:=rfl
    have e3:(begP s hq m z).m=m:=rfl
    rw[e1,e3]at q1
    rw[e2,e3]at q2
    have q3:B≤B*m.toNat:=Nat.le_mul_of_pos_right _ (by omega)
    obtain⟨BM,hBM⟩:∃x,x=B*m.toNat:=⟨_,rfl⟩
    rw[←hBM]at q1 q2 q3
    omega
   have hrw:r.1.wait.length≤65535:=by have h5:=g2.1.wait;have h6:=g2.2.1;have h7:=mayS_rng hm2;have e3:(begP s hq m z).m=m:=rfl;rw[e3]at h6;omega
   rw[hal]
   have HG:=Lib.hid g2.1;have HRL:=Lib.hid hrl;have HRW:=Lib.hid hrw
   have HST:Hid (∀(V:World) (g:Nat) (Ah:Option Addr) (hc:Nat) (Aw:Option Addr) (wc:Nat) (B:Nat) (Ap:Option Addr) (pc:Nat),Und V B g {begP s hq m z with wait:=(begP s hq m z).wait++b} [] Ah hc Aw wc Ap pc none 0→Calls Tryz.prog 29 #[.pointer (some ⟨g,0,none⟩)] V fun e w'=>e=.returned (.tuple #[])∧(∃Ah' hc' Aw' wc' Ap' pc' Ao' oc',Und w' B g r.1 r.2 Ah' hc' Aw' wc' Ap' pc' Ao' oc')∧Below B V w'):=Lib.hid fun V g Ah hc Aw wc B Ap pc UV=>by
    rw[hr]
    have gw:GoodW {begP s hq m z with wait:=(begP s hq m z).wait++b}:=gb.w.set (fun x hx=>(List.mem_append.1 hx).elim (gb.bw x) (bb x))
    have hl:((begP s hq m z).wait++b).length≤300000:=by rw[List.length_append];show 0+b.length≤_;omega
    have:=pwrite_any V B g {begP s hq m z with wait:=(begP s hq m z).wait++b} [] Ah hc Aw wc Ap pc none 0 UV gw (by show((begP s hq m z).wait++b).length≤_;omega) (by show 0+10*((begP s hq m z).wait++b).length≤_;omega)
    refine this.mono fun e w' ⟨e1,e2,_,e4⟩=>⟨e1,?_,e4⟩
    have ew:wrtP ({begP s hq m z with wait:=(begP s hq m z).wait++b}:Prs).wait.length {begP s hq m z with wait:=(begP s hq m z).wait++b} ({begP s hq m z with wait:=(begP s hq m z).wait++b}:Prs).wait=writeP (begP s hq m z) b:=wrt_wait _ (begP s hq m z) _ _
    rw[ew,List.nil_append]at e2
    exact e2
   have HEV:=Lib.hid eV
   clear hnw hW1 hh b1 x1 hZ hb hbn hE1 hm eA stA hSA hm2 eV hbig bb gb hr hal g2 hrl hrw
   go_enter Tryz.func9,Tryz.ntmps9
   go_wp2_with (first
    |(rw[←HW1.out,←HH.out])
    |(refine wpList_load_row rfl _ _ rfl h rfl _ SA (0,0) _ HX1.out Tryz.underlying27 rfl (by rw[HSS.out];exact szSty12) ?_)
    |fail)
   refine HNW.out.mono ?_
   rintro e w2 ⟨A1,k1,A2,k2,A3,k3,rfl,r2,hb2⟩
   rw[HEV.out]at r2⊢
   obtain⟨Y,hY⟩:∃Y,Y=prsA (begP s hq m z) A1 k1 A2 k2 A3 k3:=⟨_,rfl⟩
   have HYS:Hid (Y.size=9):=Lib.hid (by rw[hY];rfl)
   have HYO:Hid (Y.all (·.oneCell')=true):=Lib.hid (by rw[hY];exact prsA_one ..)
   obtain⟨W3,hW3⟩:∃W,W=mkV w2 Z Y 32:=⟨_,rfl⟩
   have hb23:Below w2.heap.size w2 W3:=by rw[hW3];exact mkV_below _ _ _ _
   have hb03:Below h w W3:=HB1.out.trans ((hb2.trans (hb23.mono hb2.size)).mono (by have:=HX1.out.lt;omega))
   obtain⟨h6,hh6⟩:∃x,x=w2.heap.size:=⟨_,rfl⟩
   have HY3:Hid (BoxC W3 h6 Y 32):=Lib.hid (by rw[hW3,hh6];exact mkV_row _ _ _ _)
   have r3:=(r2.below hb23 (Nat.le_refl _)).more hb23.size
   have hb3:ByR W3 W3.heap.size Ab b.length bc (lst b):=by
    have:=hb03;rw[HH.out]at this
    exact(HBB.out.below this (Nat.le_refl _)).more this.size
   have hbg:=pbegin_any W3 (begP s hq m z) A1 k1 A2 k2 A3 k3 r3 Ab bc b hb3 (by show 0≤_;omega) (by show 0≤_;omega) h3
   rw[←hY,←HBN.out]at hbg
   have HB3:=Lib.hid hb03;have HW3:=Lib.hid hW3;have HBG:=Lib.hid hbg;have HH6:=Lib.hid hh6
   rw[←hY]
   clear hW3 hb2 r2 hY HNW hb23 hb03 r3 hb3 hbg hh6 h3
   go_wp2_with (first
    |(refine wpList_store_rowTo rfl _ _ _ rfl rfl w2.heap.size Y rfl rfl 32 Z (heap_alloc_new w2 _) (by rw[HYS.out];exact szPrs) (by rw[HZS.out,HYS.out]) HYO.out ?_;rw[show(w2.alloc (.cells Z 32)).setRow w2.heap.size Y=mkV w2 Z Y 32 from rfl,←HW3.out,←HH6.out])
    |(refine wpList_load_row rfl _ _ rfl h6 rfl _ Y (0,0) _ HY3.out Tryz.underlying32 rfl (by rw[HYS.out];exact szPrs) ?_)
    |fail)
   refine HBG.out.mono ?_
   rintro e w4 ⟨g,A4,k4,A5,k5,rfl,U4,hb4⟩
   have HS4:=Lib.hid (HST.out w4 g A4 k4 A5 k5 W3.heap.size A3 k3 U4)
   have HB4:=Lib.hid hb4
   clear U4 hb4 HBG
   go_wp2_with fail
   refine HS4.out.mono ?_
   rintro e w5 ⟨rfl,⟨A6,k6,A7,k7,A8,k8,A9,k9,U5⟩,hb5⟩
   have hfi:=pfinish_any w5 W3.heap.size g r.1 r.2 A6 k6 A7 k7 A8 k8 A9 k9 U5 HG.out.w HRW.out (by have:=HRL.out;omega)
   have HFI:=Lib.hid hfi;have HB5:=Lib.hid (HB4.out.trans hb5)
   clear hfi U5 hb5 HS4
   go_wp2_with fail
   refine HFI.out.mono ?_
   rintro e w6 ⟨rfl,⟨B6,j6,B7,j7,B8,j8,B9,j9,U6⟩,hb6⟩
   have c9:w6.cell? ⟨g,9,none⟩=some (.slice B9 (r.2++(finP r.1).2).length j9):=U6.box.cell.trans rfl
   have hbR:ByR w6 w6.heap.size B9 (r.2++(finP r.1).2).length j9 (lst (r.2++(finP r.1).2)):=ByR.of_own U6.own (lst_lt U6.bo)
   obtain⟨O,hO⟩:∃O,O=r.2++(finP r.1).2:=⟨_,rfl⟩
   rw[←hO]at c9 hbR
   obtain⟨on,hon⟩:∃x,x=O.length:=⟨_,rfl⟩
   rw[←hon]at c9 hbR
   have HR6:=Lib.hid hbR;have HB6:=Lib.hid (HB3.out.trans ((HB5.out.trans hb6).mono (by have:=HB3.out.size;have:=HH.out;omega)))
   have HOE:=Lib.hid hO;have HON:=Lib.hid hon
   clear U6 hb6 hbR HFI hO hon
   go_wp2
   refine bodyPost_ret (results_tmp2 rfl _ _ _) rfl ?_
   rw[←HOE.out]
   exact⟨B9,on,j9,rfl,HON.out,HR6.out,by rw[←HH.out];exact HB6.out⟩
end Go.Proofs.YtokpcpjnihinfaaGreat
namespace Go.Proofs.YtokpcpjnihinfaaGreat
open Go.RowKit Go.ChangeShapes Go.WideShapes Go.ChangeAt Go.Joins
theorem eqb_any(w:World)(A:Option Addr)(c:Nat)(a:List Nat)(A2:Option Addr)(c2:Nat)(b:List Nat)(ha:ByR w w.heap.size A a.length c (lst a))(hb:ByR w w.heap.size A2 b.length c2 (lst b)):
  Calls Tryz.prog 43 #[.slice A a.length c,.slice A2 b.length c2] w fun e w'=>e=.returned (.bool (decide (a=b)))∧w'=w:=by
 have h:=equalb_any w w.heap.size A A2 a.length c b.length c2 (lst a) (lst b) ha.1 hb.1
 have e:((strB a.length (lst a)).toList==(strB b.length (lst b)).toList)=decide (a=b):=strL_beq (bytes_of ha) (bytes_of hb)
 rw[e]at h
 exact h
theorem new_pcon:PNewCon:=by
 intro w s h m z
 have hz:=(zero_of_info zero_prs).1
 obtain⟨Z,hZ⟩:∃Z,Z=prsA (begP 0 0 0 false) none 0 none 0 none 0:=⟨_,rfl⟩
 obtain⟨Y,hY⟩:∃Y,Y=prsA (begP s h m z) none 0 none 0 none 0:=⟨_,rfl⟩
 have hb0:=built_prs0
 have hb1:=built_beg s h m z
 have hzs:Z.size=9:=by rw[hZ];rfl
 have hys:Y.size=9:=by rw[hY];rfl
 have hz1:Z.all (·.oneCell')=true:=by rw[hZ];exact prsA_one ..
 have hy1:Y.all (·.oneCell')=true:=by rw[hY];exact prsA_one ..
 have hV:prsA (begV s h m z) none 0 none 0 none 0=if mayS s h m=false then Z else Y:=by rw[hZ,hY];unfold begV;split<;>rfl
 have hNR:∀V:World,PrsR V V.heap.size (begV s h m z) none 0 none 0 none 0:=fun V=>by
  unfold begV;split
  ·exact beg_nil _ _ _ _ _ _
  ·exact beg_nil _ _ _ _ _ _
 suffices hs:Calls Tryz.prog 11 #[.agg #[.int .i64 s,.int .i64 h,.int .i64 m,.bool z]] w fun e w'=>e=.returned (.tuple #[.agg (prsA (begV s h m z) none 0 none 0 none 0),.int .i64 (begE s h m)])∧Below w.heap.size w w' from
  hs.mono fun e w' ⟨h1,h2⟩=>⟨none,0,none,0,none,0,h1,hNR w',h2⟩
 clear hNR
 rw[hV]
 have hm:=fun V=>sty8_any V s h m z
 unfold begE
 unfold styE at hm
 rw[←hZ]at hz hb0
 rw[←hY]at hb1
 obtain⟨M,hM⟩:∃M,M=mayS s h m:=⟨_,rfl⟩
 rw[←hM]at hm⊢
 obtain⟨W1,hW1⟩:∃W,W=(w.alloc (.cells #[.int .i64 s,.int .i64 h,.int .i64 m,.bool z] 27)).alloc (.cells Z 32):=⟨_,rfl⟩
 have b1:Below w.heap.size w W1:=by rw[hW1];exact((Below.refl _ _).alloc (Nat.le_refl _) _).alloc (by simp) _
 have x1:BoxC W1 w.heap.size #[.int .i64 s,.int .i64 h,.int .i64 m,.bool z] 27:=by rw[hW1];exact(BoxC.new w _ _).old _
 have y1:BoxC W1 (w.heap.size+1) Z 32:=by
  rw[hW1];have:=BoxC.new (w.alloc (.cells #[.int .i64 s,.int .i64 h,.int .i64 m,.bool z] 27)) Z 32
  rwa[World.size_alloc]at this
 have HM:=Lib.hid hm;have HW:=Lib.hid hW1;have HB:=Lib.hid b1;have HX:=Lib.hid x1;have HY:=Lib.hid y1;have HZS:=Lib.hid hzs;have HYS:=Lib.hid hys;have HZ1:=Lib.hid hz1;have HY1:=Lib.hid hy1;have HB0:=Lib.hid hb0;have HB1:=Lib.hid hb1
 clear hm hM hW1 b1 x1 y1 hzs hys hz1 hy1 hb0 hb1 hV hZ hY
 cases M with
 |false=>
  go_enter Tryz.func11,Tryz.ntmps11
  go_wp2_with (first
   |(rw[←HW.out];refine wpList_load_row rfl _ _ rfl w.heap.size rfl _ _ (0,0) _ HX.out Tryz.underlying27 rfl szSty12 ?_)
   |fail)
  refine(HM.out W1).mono ?_
  rintro e w2 ⟨rfl,hb2⟩
  have hy2:=HY.out.below hb2 HY.out.lt
  have hb02:=HB.out.trans (hb2.mono HB.out.size)
  obtain⟨U,hU⟩:∃U,U=w2.setRow (w.heap.size+1) Z:=⟨_,rfl⟩
  have HU1:Hid (BoxC U (w.heap.size+1) Z 32):=Lib.hid (by rw[hU];exact hy2.row Z)
  have HUB:Hid (Below w.heap.size w U):=Lib.hid (by rw[hU];exact below_rowC hb02 (by omega) _)
  have HU:=Lib.hid hU;have HY2:=Lib.hid hy2
  clear hU hb2 hb02 hy2
  rw[if_neg (show¬(false=true) by simp)]
  go_wp2_with (first
   |(refine wpList_buildTo rfl 32 #[] rfl (some 9) rfl Z ?_ ?_;focus(simpa[Act.eval]using HB0.out))
   |(refine wpList_store_rowTo rfl _ _ _ rfl rfl (w.heap.size+1) Z rfl rfl 32 Z HY2.out (by rw[HZS.out];exact szPrs) rfl HZ1.out ?_;rw[←HU.out]))
  refine bodyPost_ret (cell_prs rfl _ _ (w.heap.size+1) Z HZS.out rfl HU1.out) rfl ?_
  exact⟨rfl,HUB.out⟩
 |true=>
  go_enter Tryz.func11,Tryz.ntmps11
  go_wp2_with (first
   |(rw[←HW.out];refine wpList_load_row rfl _ _ rfl w.heap.size rfl _ _ (0,0) _ HX.out Tryz.underlying27 rfl szSty12 ?_)
   |fail)
  refine(HM.out W1).mono ?_
  rintro e w2 ⟨rfl,hb2⟩
  have hy2:=HY.out.below hb2 HY.out.lt
  have hx2:=HX.out.below hb2 HX.out.lt
  have hb02:=HB.out.trans (hb2.mono HB.out.size)
  obtain⟨U,hU⟩:∃U,U=w2.setRow (w.heap.size+1) Y:=⟨_,rfl⟩
  have HU1:Hid (BoxC U (w.heap.size+1) Y 32):=Lib.hid (by rw[hU];exact hy2.row Y)
  have HUB:Hid (Below w.heap.size w U):=Lib.hid (by rw[hU];exact below_rowC hb02 (by omega) _)
  have HU:=Lib.hid hU;have HY2:=Lib.hid hy2;have HX2:=Lib.hid hx2
  clear hU hb2 hb02 hy2 hx2
  rw[if_pos trivial]
  go_wp2_with (first
   |(refine wpList_load_row rfl _ _ rfl w.heap.size rfl _ _ (0,0) _ HX2.out Tryz.underlying27 rfl szSty12 ?_)
   |(refine wpList_buildTo rfl 32 #[(0,.tmp 11)] rfl (some 12) rfl Y ?_ ?_;focus(simpa[Act.eval,Act.put]using HB1.out))
   |(refine wpList_store_rowTo rfl _ _ _ rfl rfl (w.heap.size+1) Y rfl rfl 32 Z HY2.out (by rw[HYS.out];exact szPrs) (by rw[HZS.out,HYS.out]) HY1.out ?_;rw[←HU.out]))
  refine bodyPost_ret (cell_prs rfl _ _ (w.heap.size+1) Y HYS.out rfl HU1.out) rfl ?_
  exact⟨rfl,HUB.out⟩
theorem pchk_a(w:World)(s h m:Int)(z:Bool)(Ah:Option Addr)(hn hc:Nat)(Aw:Option Addr)(wn wc:Nat)(Ap:Option Addr)(pn pc:Nat)(k:Int)(ov:Bool)(f:Nat→Nat)(hr:RdB w w.heap.size Ap pn f)(hq:styE s h m=8):
  Calls Tryz.prog 16 #[.agg #[.int .i64 s,.int .i64 h,.int .i64 m,.bool z,.slice Ah hn hc,.slice Aw wn wc,.slice Ap pn pc,.int .i64 k,.bool ov]] w fun e w'=>e=.returned (.int .i64 8)∧Below w.heap.size w w':=by
 have HR:=Lib.hid hr
 clear hr
 obtain⟨W1,hW1⟩:∃W,W=w.alloc (.cells #[.int .i64 s,.int .i64 h,.int .i64 m,.bool z,.slice Ah hn hc,.slice Aw wn wc,.slice Ap pn pc,.int .i64 k,.bool ov] 32):=⟨_,rfl⟩
 have hx0:BoxC W1 w.heap.size #[.int .i64 s,.int .i64 h,.int .i64 m,.bool z,.slice Ah hn hc,.slice Aw wn wc,.slice Ap pn pc,.int .i64 k,.bool ov] 32:=by rw[hW1];exact BoxC.new w _ _
 have hb0:Below w.heap.size w W1:=by rw[hW1];exact(Below.refl _ _).alloc (Nat.le_refl _) _
 have HX0:=Lib.hid hx0;have HB0:=Lib.hid hb0;have HW1:=Lib.hid hW1
 have HRS:Hid (∀V,BoxC V w.heap.size #[.int .i64 s,.int .i64 h,.int .i64 m,.bool z,.slice Ah hn hc,.slice Aw wn wc,.slice Ap pn pc,.int .i64 k,.bool ov] 32→V.rangeAt w.heap.size 0 [.int .i64 s,.int .i64 h,.int .i64 m,.bool z]):=Lib.hid fun V hx=>rangeMid hx 0 _ (fun i hi=>by rcases i with _|_|_|_|i<;>first|rfl|(simp at hi;omega))
 have HRP:Hid (∀V,BoxC V w.heap.size #[.int .i64 s,.int .i64 h,.int .i64 m,.bool z,.slice Ah hn hc,.slice Aw wn wc,.slice Ap pn pc,.int .i64 k,.bool ov] 32→V.rangeAt w.heap.size 6 [.slice Ap pn pc,.int .i64 k]):=Lib.hid fun V hx=>rangeMid hx 6 _ (fun i hi=>by rcases i with _|_|i<;>first|rfl|(simp at hi;omega))
 clear hx0 hb0 hW1
 go_enter Tryz.func16,Tryz.ntmps16
 go_wp2_with (first
  |(rw[←HW1.out])
  |(refine wpList_load_mid rfl _ _ rfl w.heap.size 0 rfl [.int .i64 s,.int .i64 h,.int .i64 m,.bool z] _ (HRS.out _ HX0.out) Tryz.underlying27 rfl (szStyL ..) ?_)
  |fail)
 refine(sty8_any _ s h m z).mono ?_
 rintro e w1 ⟨rfl,hb1⟩
 have hx1:BoxC w1 w.heap.size #[.int .i64 s,.int .i64 h,.int .i64 m,.bool z,.slice Ah hn hc,.slice Aw wn wc,.slice Ap pn pc,.int .i64 k,.bool ov] 32:=HX0.out.below hb1 HX0.out.lt
 have hb01:Below w.heap.size w w1:=HB0.out.trans (hb1.mono HB0.out.size)
 have c10:w1.cell? ⟨w.heap.size,0,none⟩=some (.int .i64 s):=hx1.cell.trans rfl
 have c11:w1.cell? ⟨w.heap.size,1,none⟩=some (.int .i64 h):=hx1.cell.trans rfl
 have c12:w1.cell? ⟨w.heap.size,2,none⟩=some (.int .i64 m):=hx1.cell.trans rfl
 have c13:w1.cell? ⟨w.heap.size,3,none⟩=some (.bool z):=hx1.cell.trans rfl
 have c14:w1.cell? ⟨w.heap.size,4,none⟩=some (.slice Ah hn hc):=hx1.cell.trans rfl
 have c15:w1.cell? ⟨w.heap.size,5,none⟩=some (.slice Aw wn wc):=hx1.cell.trans rfl
 have c16:w1.cell? ⟨w.heap.size,6,none⟩=some (.slice Ap pn pc):=hx1.cell.trans rfl
 have c17:w1.cell? ⟨w.heap.size,7,none⟩=some (.int .i64 k):=hx1.cell.trans rfl
 have c18:w1.cell? ⟨w.heap.size,8,none⟩=some (.bool ov):=hx1.cell.trans rfl
 have HB:=Lib.hid hb01;have HX:=Lib.hid hx1
 clear hb1 hb01 hx1
 rw[hq]
 go_wp2
 go_ret
 exact⟨rfl,HB.out⟩
theorem pchk_d(w:World)(s h m:Int)(z:Bool)(Ah:Option Addr)(hn hc:Nat)(Aw:Option Addr)(wn wc:Nat)(Ap:Option Addr)(pn pc:Nat)(k:Int)(ov:Bool)(f:Nat→Nat)(hr:RdB w w.heap.size Ap pn f)(hq:styE s h m=0)(hp:penE f pn k=8):
  Calls Tryz.prog 16 #[.agg #[.int .i64 s,.int .i64 h,.int .i64 m,.bool z,.slice Ah hn hc,.slice Aw wn wc,.slice Ap pn pc,.int .i64 k,.bool ov]] w fun e w'=>e=.returned (.int .i64 8)∧Below w.heap.size w w':=by
 have HR:=Lib.hid hr
 clear hr
 obtain⟨W1,hW1⟩:∃W,W=w.alloc (.cells #[.int .i64 s,.int .i64 h,.int .i64 m,.bool z,.slice Ah hn hc,.slice Aw wn wc,.slice Ap pn pc,.int .i64 k,.bool ov] 32):=⟨_,rfl⟩
 have hx0:BoxC W1 w.heap.size #[.int .i64 s,.int .i64 h,.int .i64 m,.bool z,.slice Ah hn hc,.slice Aw wn wc,.slice Ap pn pc,.int .i64 k,.bool ov] 32:=by rw[hW1];exact BoxC.new w _ _
 have hb0:Below w.heap.size w W1:=by rw[hW1];exact(Below.refl _ _).alloc (Nat.le_refl _) _
 have HX0:=Lib.hid hx0;have HB0:=Lib.hid hb0;have HW1:=Lib.hid hW1
 have HRS:Hid (∀V,BoxC V w.heap.size #[.int .i64 s,.int .i64 h,.int .i64 m,.bool z,.slice Ah hn hc,.slice Aw wn wc,.slice Ap pn pc,.int .i64 k,.bool ov] 32→V.rangeAt w.heap.size 0 [.int .i64 s,.int .i64 h,.int .i64 m,.bool z]):=Lib.hid fun V hx=>rangeMid hx 0 _ (fun i hi=>by rcases i with _|_|_|_|i<;>first|rfl|(simp at hi;omega))
 have HRP:Hid (∀V,BoxC V w.heap.size #[.int .i64 s,.int .i64 h,.int .i64 m,.bool z,.slice Ah hn hc,.slice Aw wn wc,.slice Ap pn pc,.int .i64 k,.bool ov] 32→V.rangeAt w.heap.size 6 [.slice Ap pn pc,.int .i64 k]):=Lib.hid fun V hx=>rangeMid hx 6 _ (fun i hi=>by rcases i with _|_|i<;>first|rfl|(simp at hi;omega))
 clear hx0 hb0 hW1
 go_enter Tryz.func16,Tryz.ntmps16
 go_wp2_with (first
  |(rw[←HW1.out])
  |(refine wpList_load_mid rfl _ _ rfl w.heap.size 0 rfl [.int .i64 s,.int .i64 h,.int .i64 m,.bool z] _ (HRS.out _ HX0.out) Tryz.underlying27 rfl (szStyL ..) ?_)
  |fail)
 refine(sty8_any _ s h m z).mono ?_
 rintro e w1 ⟨rfl,hb1⟩
 have hx1:BoxC w1 w.heap.size #[.int .i64 s,.int .i64 h,.int .i64 m,.bool z,.slice Ah hn hc,.slice Aw wn wc,.slice Ap pn pc,.int .i64 k,.bool ov] 32:=HX0.out.below hb1 HX0.out.lt
 have hb01:Below w.heap.size w w1:=HB0.out.trans (hb1.mono HB0.out.size)
 have c10:w1.cell? ⟨w.heap.size,0,none⟩=some (.int .i64 s):=hx1.cell.trans rfl
 have c11:w1.cell? ⟨w.heap.size,1,none⟩=some (.int .i64 h):=hx1.cell.trans rfl
 have c12:w1.cell? ⟨w.heap.size,2,none⟩=some (.int .i64 m):=hx1.cell.trans rfl
 have c13:w1.cell? ⟨w.heap.size,3,none⟩=some (.bool z):=hx1.cell.trans rfl
 have c14:w1.cell? ⟨w.heap.size,4,none⟩=some (.slice Ah hn hc):=hx1.cell.trans rfl
 have c15:w1.cell? ⟨w.heap.size,5,none⟩=some (.slice Aw wn wc):=hx1.cell.trans rfl
 have c16:w1.cell? ⟨w.heap.size,6,none⟩=some (.slice Ap pn pc):=hx1.cell.trans rfl
 have c17:w1.cell? ⟨w.heap.size,7,none⟩=some (.int .i64 k):=hx1.cell.trans rfl
 have c18:w1.cell? ⟨w.heap.size,8,none⟩=some (.bool ov):=hx1.cell.trans rfl
 have HB:=Lib.hid hb01;have HX:=Lib.hid hx1
 clear hb1 hb01 hx1
 rw[hq]
 go_wp2_with (first
  |(refine wpList_load_mid rfl _ _ rfl w.heap.size 6 rfl [.slice Ap pn pc,.int .i64 k] _ (HRP.out _ HX.out) Tryz.underlying30 rfl (szPen11L _ _) ?_)
  |fail)
 refine(pcheck_any w1 Ap pn pc f k ((HR.out.below HB.out (Nat.le_refl _)).more HB.out.size)).mono ?_
 rintro e w2 ⟨rfl,hb2⟩
 have hx2:BoxC w2 w.heap.size #[.int .i64 s,.int .i64 h,.int .i64 m,.bool z,.slice Ah hn hc,.slice Aw wn wc,.slice Ap pn pc,.int .i64 k,.bool ov] 32:=HX.out.below hb2 HX.out.lt
 have hb02:Below w.heap.size w w2:=HB.out.trans (hb2.mono HB.out.size)
 have c20:w2.cell? ⟨w.heap.size,0,none⟩=some (.int .i64 s):=hx2.cell.trans rfl
 have c21:w2.cell? ⟨w.heap.size,1,none⟩=some (.int .i64 h):=hx2.cell.trans rfl
 have c22:w2.cell? ⟨w.heap.size,2,none⟩=some (.int .i64 m):=hx2.cell.trans rfl
 have c23:w2.cell? ⟨w.heap.size,3,none⟩=some (.bool z):=hx2.cell.trans rfl
 have c24:w2.cell? ⟨w.heap.size,4,none⟩=some (.slice Ah hn hc):=hx2.cell.trans rfl
 have c25:w2.cell? ⟨w.heap.size,5,none⟩=some (.slice Aw wn wc):=hx2.cell.trans rfl
 have c26:w2.cell? ⟨w.heap.size,6,none⟩=some (.slice Ap pn pc):=hx2.cell.trans rfl
 have c27:w2.cell? ⟨w.heap.size,7,none⟩=some (.int .i64 k):=hx2.cell.trans rfl
 have c28:w2.cell? ⟨w.heap.size,8,none⟩=some (.bool ov):=hx2.cell.trans rfl
 have HB2:=Lib.hid hb02
 clear hb2 hb02 hx2
 rw[hp]
 go_wp2
 go_ret
 exact⟨rfl,HB2.out⟩
theorem pchk_b(w:World)(s h m:Int)(z:Bool)(Ah:Option Addr)(hn hc:Nat)(Aw:Option Addr)(wn wc:Nat)(Ap:Option Addr)(pn pc:Nat)(k:Int)(ov:Bool)(f:Nat→Nat)(hr:RdB w w.heap.size Ap pn f)(hq:styE s h m=0)(hp:penE f pn k=0)(h2:s<(hn:Int)):
  Calls Tryz.prog 16 #[.agg #[.int .i64 s,.int .i64 h,.int .i64 m,.bool z,.slice Ah hn hc,.slice Aw wn wc,.slice Ap pn pc,.int .i64 k,.bool ov]] w fun e w'=>e=.returned (.int .i64 8)∧Below w.heap.size w w':=by
 have d2:decide (s<(hn:Int))=true:=decide_eq_true (by omega)
 clear h2
 have HR:=Lib.hid hr
 clear hr
 obtain⟨W1,hW1⟩:∃W,W=w.alloc (.cells #[.int .i64 s,.int .i64 h,.int .i64 m,.bool z,.slice Ah hn hc,.slice Aw wn wc,.slice Ap pn pc,.int .i64 k,.bool ov] 32):=⟨_,rfl⟩
 have hx0:BoxC W1 w.heap.size #[.int .i64 s,.int .i64 h,.int .i64 m,.bool z,.slice Ah hn hc,.slice Aw wn wc,.slice Ap pn pc,.int .i64 k,.bool ov] 32:=by rw[hW1];exact BoxC.new w _ _
 have hb0:Below w.heap.size w W1:=by rw[hW1];exact(Below.refl _ _).alloc (Nat.le_refl _) _
 have HX0:=Lib.hid hx0;have HB0:=Lib.hid hb0;have HW1:=Lib.hid hW1
 have HRS:Hid (∀V,BoxC V w.heap.size #[.int .i64 s,.int .i64 h,.int .i64 m,.bool z,.slice Ah hn hc,.slice Aw wn wc,.slice Ap pn pc,.int .i64 k,.bool ov] 32→V.rangeAt w.heap.size 0 [.int .i64 s,.int .i64 h,.int .i64 m,.bool z]):=Lib.hid fun V hx=>rangeMid hx 0 _ (fun i hi=>by rcases i with _|_|_|_|i<;>first|rfl|(simp at hi;omega))
 have HRP:Hid (∀V,BoxC V w.heap.size #[.int .i64 s,.int .i64 h,.int .i64 m,.bool z,.slice Ah hn hc,.slice Aw wn wc,.slice Ap pn pc,.int .i64 k,.bool ov] 32→V.rangeAt w.heap.size 6 [.slice Ap pn pc,.int .i64 k]):=Lib.hid fun V hx=>rangeMid hx 6 _ (fun i hi=>by rcases i with _|_|i<;>first|rfl|(simp at hi;omega))
 clear hx0 hb0 hW1
 go_enter Tryz.func16,Tryz.ntmps16
 go_wp2_with (first
  |(rw[←HW1.out])
  |(refine wpList_load_mid rfl _ _ rfl w.heap.size 0 rfl [.int .i64 s,.int .i64 h,.int .i64 m,.bool z] _ (HRS.out _ HX0.out) Tryz.underlying27 rfl (szStyL ..) ?_)
  |fail)
 refine(sty8_any _ s h m z).mono ?_
 rintro e w1 ⟨rfl,hb1⟩
 have hx1:BoxC w1 w.heap.size #[.int .i64 s,.int .i64 h,.int .i64 m,.bool z,.slice Ah hn hc,.slice Aw wn wc,.slice Ap pn pc,.int .i64 k,.bool ov] 32:=HX0.out.below hb1 HX0.out.lt
 have hb01:Below w.heap.size w w1:=HB0.out.trans (hb1.mono HB0.out.size)
 have c10:w1.cell? ⟨w.heap.size,0,none⟩=some (.int .i64 s):=hx1.cell.trans rfl
 have c11:w1.cell? ⟨w.heap.size,1,none⟩=some (.int .i64 h):=hx1.cell.trans rfl
 have c12:w1.cell? ⟨w.heap.size,2,none⟩=some (.int .i64 m):=hx1.cell.trans rfl
 have c13:w1.cell? ⟨w.heap.size,3,none⟩=some (.bool z):=hx1.cell.trans rfl
 have c14:w1.cell? ⟨w.heap.size,4,none⟩=some (.slice Ah hn hc):=hx1.cell.trans rfl
 have c15:w1.cell? ⟨w.heap.size,5,none⟩=some (.slice Aw wn wc):=hx1.cell.trans rfl
 have c16:w1.cell? ⟨w.heap.size,6,none⟩=some (.slice Ap pn pc):=hx1.cell.trans rfl
 have c17:w1.cell? ⟨w.heap.size,7,none⟩=some (.int .i64 k):=hx1.cell.trans rfl
 have c18:w1.cell? ⟨w.heap.size,8,none⟩=some (.bool ov):=hx1.cell.trans rfl
 have HB:=Lib.hid hb01;have HX:=Lib.hid hx1
 clear hb1 hb01 hx1
 rw[hq]
 go_wp2_with (first
  |(refine wpList_load_mid rfl _ _ rfl w.heap.size 6 rfl [.slice Ap pn pc,.int .i64 k] _ (HRP.out _ HX.out) Tryz.underlying30 rfl (szPen11L _ _) ?_)
  |fail)
 refine(pcheck_any w1 Ap pn pc f k ((HR.out.below HB.out (Nat.le_refl _)).more HB.out.size)).mono ?_
 rintro e w2 ⟨rfl,hb2⟩
 have hx2:BoxC w2 w.heap.size #[.int .i64 s,.int .i64 h,.int .i64 m,.bool z,.slice Ah hn hc,.slice Aw wn wc,.slice Ap pn pc,.int .i64 k,.bool ov] 32:=HX.out.below hb2 HX.out.lt
 have hb02:Below w.heap.size w w2:=HB.out.trans (hb2.mono HB.out.size)
 have c20:w2.cell? ⟨w.heap.size,0,none⟩=some (.int .i64 s):=hx2.cell.trans rfl
 have c21:w2.cell? ⟨w.heap.size,1,none⟩=some (.int .i64 h):=hx2.cell.trans rfl
 have c22:w2.cell? ⟨w.heap.size,2,none⟩=some (.int .i64 m):=hx2.cell.trans rfl
 have c23:w2.cell? ⟨w.heap.size,3,none⟩=some (.bool z):=hx2.cell.trans rfl
 have c24:w2.cell? ⟨w.heap.size,4,none⟩=some (.slice Ah hn hc):=hx2.cell.trans rfl
 have c25:w2.cell? ⟨w.heap.size,5,none⟩=some (.slice Aw wn wc):=hx2.cell.trans rfl
 have c26:w2.cell? ⟨w.heap.size,6,none⟩=some (.slice Ap pn pc):=hx2.cell.trans rfl
 have c27:w2.cell? ⟨w.heap.size,7,none⟩=some (.int .i64 k):=hx2.cell.trans rfl
 have c28:w2.cell? ⟨w.heap.size,8,none⟩=some (.bool ov):=hx2.cell.trans rfl
 have HB2:=Lib.hid hb02
 clear hb2 hb02 hx2
 rw[hp]
 go_wp2
 go_ret
 exact⟨rfl,HB2.out⟩
theorem pchk_c(w:World)(s h m:Int)(z:Bool)(Ah:Option Addr)(hn hc:Nat)(Aw:Option Addr)(wn wc:Nat)(Ap:Option Addr)(pn pc:Nat)(k:Int)(ov:Bool)(f:Nat→Nat)(hr:RdB w w.heap.size Ap pn f)(hq:styE s h m=0)(hp:penE f pn k=0)(h2:(hn:Int)≤s)(h3:m≤(wn:Int)):
  Calls Tryz.prog 16 #[.agg #[.int .i64 s,.int .i64 h,.int .i64 m,.bool z,.slice Ah hn hc,.slice Aw wn wc,.slice Ap pn pc,.int .i64 k,.bool ov]] w fun e w'=>e=.returned (.int .i64 8)∧Below w.heap.size w w':=by
 have d2:decide (s<(hn:Int))=false:=decide_eq_false (by omega)
 have d3:decide (m≤(wn:Int))=true:=decide_eq_true (by omega)
 clear h2 h3
 have HR:=Lib.hid hr
 clear hr
 obtain⟨W1,hW1⟩:∃W,W=w.alloc (.cells #[.int .i64 s,.int .i64 h,.int .i64 m,.bool z,.slice Ah hn hc,.slice Aw wn wc,.slice Ap pn pc,.int .i64 k,.bool ov] 32):=⟨_,rfl⟩
 have hx0:BoxC W1 w.heap.size #[.int .i64 s,.int .i64 h,.int .i64 m,.bool z,.slice Ah hn hc,.slice Aw wn wc,.slice Ap pn pc,.int .i64 k,.bool ov] 32:=by rw[hW1];exact BoxC.new w _ _
 have hb0:Below w.heap.size w W1:=by rw[hW1];exact(Below.refl _ _).alloc (Nat.le_refl _) _
 have HX0:=Lib.hid hx0;have HB0:=Lib.hid hb0;have HW1:=Lib.hid hW1
 have HRS:Hid (∀V,BoxC V w.heap.size #[.int .i64 s,.int .i64 h,.int .i64 m,.bool z,.slice Ah hn hc,.slice Aw wn wc,.slice Ap pn pc,.int .i64 k,.bool ov] 32→V.rangeAt w.heap.size 0 [.int .i64 s,.int .i64 h,.int .i64 m,.bool z]):=Lib.hid fun V hx=>rangeMid hx 0 _ (fun i hi=>by rcases i with _|_|_|_|i<;>first|rfl|(simp at hi;omega))
 have HRP:Hid (∀V,BoxC V w.heap.size #[.int .i64 s,.int .i64 h,.int .i64 m,.bool z,.slice Ah hn hc,.slice Aw wn wc,.slice Ap pn pc,.int .i64 k,.bool ov] 32→V.rangeAt w.heap.size 6 [.slice Ap pn pc,.int .i64 k]):=Lib.hid fun V hx=>rangeMid hx 6 _ (fun i hi=>by rcases i with _|_|i<;>first|rfl|(simp at hi;omega))
 clear hx0 hb0 hW1
 go_enter Tryz.func16,Tryz.ntmps16
 go_wp2_with (first
  |(rw[←HW1.out])
  |(refine wpList_load_mid rfl _ _ rfl w.heap.size 0 rfl [.int .i64 s,.int .i64 h,.int .i64 m,.bool z] _ (HRS.out _ HX0.out) Tryz.underlying27 rfl (szStyL ..) ?_)
  |fail)
 refine(sty8_any _ s h m z).mono ?_
 rintro e w1 ⟨rfl,hb1⟩
 have hx1:BoxC w1 w.heap.size #[.int .i64 s,.int .i64 h,.int .i64 m,.bool z,.slice Ah hn hc,.slice Aw wn wc,.slice Ap pn pc,.int .i64 k,.bool ov] 32:=HX0.out.below hb1 HX0.out.lt
 have hb01:Below w.heap.size w w1:=HB0.out.trans (hb1.mono HB0.out.size)
 have c10:w1.cell? ⟨w.heap.size,0,none⟩=some (.int .i64 s):=hx1.cell.trans rfl
 have c11:w1.cell? ⟨w.heap.size,1,none⟩=some (.int .i64 h):=hx1.cell.trans rfl
 have c12:w1.cell? ⟨w.heap.size,2,none⟩=some (.int .i64 m):=hx1.cell.trans rfl
 have c13:w1.cell? ⟨w.heap.size,3,none⟩=some (.bool z):=hx1.cell.trans rfl
 have c14:w1.cell? ⟨w.heap.size,4,none⟩=some (.slice Ah hn hc):=hx1.cell.trans rfl
 have c15:w1.cell? ⟨w.heap.size,5,none⟩=some (.slice Aw wn wc):=hx1.cell.trans rfl
 have c16:w1.cell? ⟨w.heap.size,6,none⟩=some (.slice Ap pn pc):=hx1.cell.trans rfl
 have c17:w1.cell? ⟨w.heap.size,7,none⟩=some (.int .i64 k):=hx1.cell.trans rfl
 have c18:w1.cell? ⟨w.heap.size,8,none⟩=some (.bool ov):=hx1.cell.trans rfl
 have HB:=Lib.hid hb01;have HX:=Lib.hid hx1
 clear hb1 hb01 hx1
 rw[hq]
 go_wp2_with (first
  |(refine wpList_load_mid rfl _ _ rfl w.heap.size 6 rfl [.slice Ap pn pc,.int .i64 k] _ (HRP.out _ HX.out) Tryz.underlying30 rfl (szPen11L _ _) ?_)
  |fail)
 refine(pcheck_any w1 Ap pn pc f k ((HR.out.below HB.out (Nat.le_refl _)).more HB.out.size)).mono ?_
 rintro e w2 ⟨rfl,hb2⟩
 have hx2:BoxC w2 w.heap.size #[.int .i64 s,.int .i64 h,.int .i64 m,.bool z,.slice Ah hn hc,.slice Aw wn wc,.slice Ap pn pc,.int .i64 k,.bool ov] 32:=HX.out.below hb2 HX.out.lt
 have hb02:Below w.heap.size w w2:=HB.out.trans (hb2.mono HB.out.size)
 have c20:w2.cell? ⟨w.heap.size,0,none⟩=some (.int .i64 s):=hx2.cell.trans rfl
 have c21:w2.cell? ⟨w.heap.size,1,none⟩=some (.int .i64 h):=hx2.cell.trans rfl
 have c22:w2.cell? ⟨w.heap.size,2,none⟩=some (.int .i64 m):=hx2.cell.trans rfl
 have c23:w2.cell? ⟨w.heap.size,3,none⟩=some (.bool z):=hx2.cell.trans rfl
 have c24:w2.cell? ⟨w.heap.size,4,none⟩=some (.slice Ah hn hc):=hx2.cell.trans rfl
 have c25:w2.cell? ⟨w.heap.size,5,none⟩=some (.slice Aw wn wc):=hx2.cell.trans rfl
 have c26:w2.cell? ⟨w.heap.size,6,none⟩=some (.slice Ap pn pc):=hx2.cell.trans rfl
 have c27:w2.cell? ⟨w.heap.size,7,none⟩=some (.int .i64 k):=hx2.cell.trans rfl
 have c28:w2.cell? ⟨w.heap.size,8,none⟩=some (.bool ov):=hx2.cell.trans rfl
 have HB2:=Lib.hid hb02
 clear hb2 hb02 hx2
 rw[hp]
 go_wp2
 go_ret
 exact⟨rfl,HB2.out⟩
theorem pchk_e(w:World)(s h m:Int)(z:Bool)(Ah:Option Addr)(hn hc:Nat)(Aw:Option Addr)(wn wc:Nat)(Ap:Option Addr)(pn pc:Nat)(k:Int)(ov:Bool)(f:Nat→Nat)(hr:RdB w w.heap.size Ap pn f)(hq:styE s h m=0)(hp:penE f pn k=0)(h2:(hn:Int)≤s)(h3:(wn:Int)<m)(h5:7<k):
  Calls Tryz.prog 16 #[.agg #[.int .i64 s,.int .i64 h,.int .i64 m,.bool z,.slice Ah hn hc,.slice Aw wn wc,.slice Ap pn pc,.int .i64 k,.bool ov]] w fun e w'=>e=.returned (.int .i64 8)∧Below w.heap.size w w':=by
 have d2:decide (s<(hn:Int))=false:=decide_eq_false (by omega)
 have d3:decide (m≤(wn:Int))=false:=decide_eq_false (by omega)
 have d5:decide (7<k)=true:=decide_eq_true (by omega)
 clear h2 h3 h5
 have HR:=Lib.hid hr
 clear hr
 obtain⟨W1,hW1⟩:∃W,W=w.alloc (.cells #[.int .i64 s,.int .i64 h,.int .i64 m,.bool z,.slice Ah hn hc,.slice Aw wn wc,.slice Ap pn pc,.int .i64 k,.bool ov] 32):=⟨_,rfl⟩
 have hx0:BoxC W1 w.heap.size #[.int .i64 s,.int .i64 h,.int .i64 m,.bool z,.slice Ah hn hc,.slice Aw wn wc,.slice Ap pn pc,.int .i64 k,.bool ov] 32:=by rw[hW1];exact BoxC.new w _ _
 have hb0:Below w.heap.size w W1:=by rw[hW1];exact(Below.refl _ _).alloc (Nat.le_refl _) _
 have HX0:=Lib.hid hx0;have HB0:=Lib.hid hb0;have HW1:=Lib.hid hW1
 have HRS:Hid (∀V,BoxC V w.heap.size #[.int .i64 s,.int .i64 h,.int .i64 m,.bool z,.slice Ah hn hc,.slice Aw wn wc,.slice Ap pn pc,.int .i64 k,.bool ov] 32→V.rangeAt w.heap.size 0 [.int .i64 s,.int .i64 h,.int .i64 m,.bool z]):=Lib.hid fun V hx=>rangeMid hx 0 _ (fun i hi=>by rcases i with _|_|_|_|i<;>first|rfl|(simp at hi;omega))
 have HRP:Hid (∀V,BoxC V w.heap.size #[.int .i64 s,.int .i64 h,.int .i64 m,.bool z,.slice Ah hn hc,.slice Aw wn wc,.slice Ap pn pc,.int .i64 k,.bool ov] 32→V.rangeAt w.heap.size 6 [.slice Ap pn pc,.int .i64 k]):=Lib.hid fun V hx=>rangeMid hx 6 _ (fun i hi=>by rcases i with _|_|i<;>first|rfl|(simp at hi;omega))
 clear hx0 hb0 hW1
 go_enter Tryz.func16,Tryz.ntmps16
 go_wp2_with (first
  |(rw[←HW1.out])
  |(refine wpList_load_mid rfl _ _ rfl w.heap.size 0 rfl [.int .i64 s,.int .i64 h,.int .i64 m,.bool z] _ (HRS.out _ HX0.out) Tryz.underlying27 rfl (szStyL ..) ?_)
  |fail)
 refine(sty8_any _ s h m z).mono ?_
 rintro e w1 ⟨rfl,hb1⟩
 have hx1:BoxC w1 w.heap.size #[.int .i64 s,.int .i64 h,.int .i64 m,.bool z,.slice Ah hn hc,.slice Aw wn wc,.slice Ap pn pc,.int .i64 k,.bool ov] 32:=HX0.out.below hb1 HX0.out.lt
 have hb01:Below w.heap.size w w1:=HB0.out.trans (hb1.mono HB0.out.size)
 have c10:w1.cell? ⟨w.heap.size,0,none⟩=some (.int .i64 s):=hx1.cell.trans rfl
 have c11:w1.cell? ⟨w.heap.size,1,none⟩=some (.int .i64 h):=hx1.cell.trans rfl
 have c12:w1.cell? ⟨w.heap.size,2,none⟩=some (.int .i64 m):=hx1.cell.trans rfl
 have c13:w1.cell? ⟨w.heap.size,3,none⟩=some (.bool z):=hx1.cell.trans rfl
 have c14:w1.cell? ⟨w.heap.size,4,none⟩=some (.slice Ah hn hc):=hx1.cell.trans rfl
 have c15:w1.cell? ⟨w.heap.size,5,none⟩=some (.slice Aw wn wc):=hx1.cell.trans rfl
 have c16:w1.cell? ⟨w.heap.size,6,none⟩=some (.slice Ap pn pc):=hx1.cell.trans rfl
 have c17:w1.cell? ⟨w.heap.size,7,none⟩=some (.int .i64 k):=hx1.cell.trans rfl
 have c18:w1.cell? ⟨w.heap.size,8,none⟩=some (.bool ov):=hx1.cell.trans rfl
 have HB:=Lib.hid hb01;have HX:=Lib.hid hx1
 clear hb1 hb01 hx1
 rw[hq]
 go_wp2_with (first
  |(refine wpList_load_mid rfl _ _ rfl w.heap.size 6 rfl [.slice Ap pn pc,.int .i64 k] _ (HRP.out _ HX.out) Tryz.underlying30 rfl (szPen11L _ _) ?_)
  |fail)
 refine(pcheck_any w1 Ap pn pc f k ((HR.out.below HB.out (Nat.le_refl _)).more HB.out.size)).mono ?_
 rintro e w2 ⟨rfl,hb2⟩
 have hx2:BoxC w2 w.heap.size #[.int .i64 s,.int .i64 h,.int .i64 m,.bool z,.slice Ah hn hc,.slice Aw wn wc,.slice Ap pn pc,.int .i64 k,.bool ov] 32:=HX.out.below hb2 HX.out.lt
 have hb02:Below w.heap.size w w2:=HB.out.trans (hb2.mono HB.out.size)
 have c20:w2.cell? ⟨w.heap.size,0,none⟩=some (.int .i64 s):=hx2.cell.trans rfl
 have c21:w2.cell? ⟨w.heap.size,1,none⟩=some (.int .i64 h):=hx2.cell.trans rfl
 have c22:w2.cell? ⟨w.heap.size,2,none⟩=some (.int .i64 m):=hx2.cell.trans rfl
 have c23:w2.cell? ⟨w.heap.size,3,none⟩=some (.bool z):=hx2.cell.trans rfl
 have c24:w2.cell? ⟨w.heap.size,4,none⟩=some (.slice Ah hn hc):=hx2.cell.trans rfl
 have c25:w2.cell? ⟨w.heap.size,5,none⟩=some (.slice Aw wn wc):=hx2.cell.trans rfl
 have c26:w2.cell? ⟨w.heap.size,6,none⟩=some (.slice Ap pn pc):=hx2.cell.trans rfl
 have c27:w2.cell? ⟨w.heap.size,7,none⟩=some (.int .i64 k):=hx2.cell.trans rfl
 have c28:w2.cell? ⟨w.heap.size,8,none⟩=some (.bool ov):=hx2.cell.trans rfl
 have HB2:=Lib.hid hb02
 clear hb2 hb02 hx2
 rw[hp]
 go_wp2
 go_ret
 exact⟨rfl,HB2.out⟩
theorem pchk_f(w:World)(s h m:Int)(z:Bool)(Ah:Option Addr)(hn hc:Nat)(Aw:Option Addr)(wn wc:Nat)(Ap:Option Addr)(pn pc:Nat)(k:Int)(f:Nat→Nat)(hr:RdB w w.heap.size Ap pn f)(hq:styE s h m=0)(hp:penE f pn k=0)(h2:(hn:Int)≤s)(h3:(wn:Int)<m)(h5:k≤7):
  Calls Tryz.prog 16 #[.agg #[.int .i64 s,.int .i64 h,.int .i64 m,.bool z,.slice Ah hn hc,.slice Aw wn wc,.slice Ap pn pc,.int .i64 k,.bool false]] w fun e w'=>e=.returned (.int .i64 0)∧Below w.heap.size w w':=by
 have d2:decide (s<(hn:Int))=false:=decide_eq_false (by omega)
 have d3:decide (m≤(wn:Int))=false:=decide_eq_false (by omega)
 have d5:decide (7<k)=false:=decide_eq_false (by omega)
 clear h2 h3 h5
 have HR:=Lib.hid hr
 clear hr
 obtain⟨W1,hW1⟩:∃W,W=w.alloc (.cells #[.int .i64 s,.int .i64 h,.int .i64 m,.bool z,.slice Ah hn hc,.slice Aw wn wc,.slice Ap pn pc,.int .i64 k,.bool false] 32):=⟨_,rfl⟩
 have hx0:BoxC W1 w.heap.size #[.int .i64 s,.int .i64 h,.int .i64 m,.bool z,.slice Ah hn hc,.slice Aw wn wc,.slice Ap pn pc,.int .i64 k,.bool false] 32:=by rw[hW1];exact BoxC.new w _ _
 have hb0:Below w.heap.size w W1:=by rw[hW1];exact(Below.refl _ _).alloc (Nat.le_refl _) _
 have HX0:=Lib.hid hx0;have HB0:=Lib.hid hb0;have HW1:=Lib.hid hW1
 have HRS:Hid (∀V,BoxC V w.heap.size #[.int .i64 s,.int .i64 h,.int .i64 m,.bool z,.slice Ah hn hc,.slice Aw wn wc,.slice Ap pn pc,.int .i64 k,.bool false] 32→V.rangeAt w.heap.size 0 [.int .i64 s,.int .i64 h,.int .i64 m,.bool z]):=Lib.hid fun V hx=>rangeMid hx 0 _ (fun i hi=>by rcases i with _|_|_|_|i<;>first|rfl|(simp at hi;omega))
 have HRP:Hid (∀V,BoxC V w.heap.size #[.int .i64 s,.int .i64 h,.int .i64 m,.bool z,.slice Ah hn hc,.slice Aw wn wc,.slice Ap pn pc,.int .i64 k,.bool false] 32→V.rangeAt w.heap.size 6 [.slice Ap pn pc,.int .i64 k]):=Lib.hid fun V hx=>rangeMid hx 6 _ (fun i hi=>by rcases i with _|_|i<;>first|rfl|(simp at hi;omega))
 clear hx0 hb0 hW1
 go_enter Tryz.func16,Tryz.ntmps16
 go_wp2_with (first
  |(rw[←HW1.out])
  |(refine wpList_load_mid rfl _ _ rfl w.heap.size 0 rfl [.int .i64 s,.int .i64 h,.int .i64 m,.bool z] _ (HRS.out _ HX0.out) Tryz.underlying27 rfl (szStyL ..) ?_)
  |fail)
 refine(sty8_any _ s h m z).mono ?_
 rintro e w1 ⟨rfl,hb1⟩
 have hx1:BoxC w1 w.heap.size #[.int .i64 s,.int .i64 h,.int .i64 m,.bool z,.slice Ah hn hc,.slice Aw wn wc,.slice Ap pn pc,.int .i64 k,.bool false] 32:=HX0.out.below hb1 HX0.out.lt
 have hb01:Below w.heap.size w w1:=HB0.out.trans (hb1.mono HB0.out.size)
 have c10:w1.cell? ⟨w.heap.size,0,none⟩=some (.int .i64 s):=hx1.cell.trans rfl
 have c11:w1.cell? ⟨w.heap.size,1,none⟩=some (.int .i64 h):=hx1.cell.trans rfl
 have c12:w1.cell? ⟨w.heap.size,2,none⟩=some (.int .i64 m):=hx1.cell.trans rfl
 have c13:w1.cell? ⟨w.heap.size,3,none⟩=some (.bool z):=hx1.cell.trans rfl
 have c14:w1.cell? ⟨w.heap.size,4,none⟩=some (.slice Ah hn hc):=hx1.cell.trans rfl
 have c15:w1.cell? ⟨w.heap.size,5,none⟩=some (.slice Aw wn wc):=hx1.cell.trans rfl
 have c16:w1.cell? ⟨w.heap.size,6,none⟩=some (.slice Ap pn pc):=hx1.cell.trans rfl
 have c17:w1.cell? ⟨w.heap.size,7,none⟩=some (.int .i64 k):=hx1.cell.trans rfl
 have c18:w1.cell? ⟨w.heap.size,8,none⟩=some (.bool false):=hx1.cell.trans rfl
 have HB:=Lib.hid hb01;have HX:=Lib.hid hx1
 clear hb1 hb01 hx1
 rw[hq]
 go_wp2_with (first
  |(refine wpList_load_mid rfl _ _ rfl w.heap.size 6 rfl [.slice Ap pn pc,.int .i64 k] _ (HRP.out _ HX.out) Tryz.underlying30 rfl (szPen11L _ _) ?_)
  |fail)
 refine(pcheck_any w1 Ap pn pc f k ((HR.out.below HB.out (Nat.le_refl _)).more HB.out.size)).mono ?_
 rintro e w2 ⟨rfl,hb2⟩
 have hx2:BoxC w2 w.heap.size #[.int .i64 s,.int .i64 h,.int .i64 m,.bool z,.slice Ah hn hc,.slice Aw wn wc,.slice Ap pn pc,.int .i64 k,.bool false] 32:=HX.out.below hb2 HX.out.lt
 have hb02:Below w.heap.size w w2:=HB.out.trans (hb2.mono HB.out.size)
 have c20:w2.cell? ⟨w.heap.size,0,none⟩=some (.int .i64 s):=hx2.cell.trans rfl
 have c21:w2.cell? ⟨w.heap.size,1,none⟩=some (.int .i64 h):=hx2.cell.trans rfl
 have c22:w2.cell? ⟨w.heap.size,2,none⟩=some (.int .i64 m):=hx2.cell.trans rfl
 have c23:w2.cell? ⟨w.heap.size,3,none⟩=some (.bool z):=hx2.cell.trans rfl
 have c24:w2.cell? ⟨w.heap.size,4,none⟩=some (.slice Ah hn hc):=hx2.cell.trans rfl
 have c25:w2.cell? ⟨w.heap.size,5,none⟩=some (.slice Aw wn wc):=hx2.cell.trans rfl
 have c26:w2.cell? ⟨w.heap.size,6,none⟩=some (.slice Ap pn pc):=hx2.cell.trans rfl
 have c27:w2.cell? ⟨w.heap.size,7,none⟩=some (.int .i64 k):=hx2.cell.trans rfl
 have c28:w2.cell? ⟨w.heap.size,8,none⟩=some (.bool false):=hx2.cell.trans rfl
 have HB2:=Lib.hid hb02
 clear hb2 hb02 hx2
 rw[hp]
 go_wp2
 go_ret
 exact⟨rfl,HB2.out⟩
theorem pchk_g(w:World)(s h m:Int)(z:Bool)(Ah:Option Addr)(hn hc:Nat)(Aw:Option Addr)(wn wc:Nat)(Ap:Option Addr)(pn pc:Nat)(k:Int)(f:Nat→Nat)(hr:RdB w w.heap.size Ap pn f)(hq:styE s h m=0)(hp:penE f pn k=0)(h2:(hn:Int)≤s)(h3:(wn:Int)<m)(h5:k≤7)(h6:0<wn):
  Calls Tryz.prog 16 #[.agg #[.int .i64 s,.int .i64 h,.int .i64 m,.bool z,.slice Ah hn hc,.slice Aw wn wc,.slice Ap pn pc,.int .i64 k,.bool true]] w fun e w'=>e=.returned (.int .i64 8)∧Below w.heap.size w w':=by
 have d2:decide (s<(hn:Int))=false:=decide_eq_false (by omega)
 have d3:decide (m≤(wn:Int))=false:=decide_eq_false (by omega)
 have d5:decide (7<k)=false:=decide_eq_false (by omega)
 have d6:decide ((0:Int)<(wn:Int))=true:=decide_eq_true (by omega)
 have d6n:decide (0<wn)=true:=decide_eq_true (by omega)
 clear h2 h3 h5
 have HR:=Lib.hid hr
 clear hr
 obtain⟨W1,hW1⟩:∃W,W=w.alloc (.cells #[.int .i64 s,.int .i64 h,.int .i64 m,.bool z,.slice Ah hn hc,.slice Aw wn wc,.slice Ap pn pc,.int .i64 k,.bool true] 32):=⟨_,rfl⟩
 have hx0:BoxC W1 w.heap.size #[.int .i64 s,.int .i64 h,.int .i64 m,.bool z,.slice Ah hn hc,.slice Aw wn wc,.slice Ap pn pc,.int .i64 k,.bool true] 32:=by rw[hW1];exact BoxC.new w _ _
 have hb0:Below w.heap.size w W1:=by rw[hW1];exact(Below.refl _ _).alloc (Nat.le_refl _) _
 have HX0:=Lib.hid hx0;have HB0:=Lib.hid hb0;have HW1:=Lib.hid hW1
 have HRS:Hid (∀V,BoxC V w.heap.size #[.int .i64 s,.int .i64 h,.int .i64 m,.bool z,.slice Ah hn hc,.slice Aw wn wc,.slice Ap pn pc,.int .i64 k,.bool true] 32→V.rangeAt w.heap.size 0 [.int .i64 s,.int .i64 h,.int .i64 m,.bool z]):=Lib.hid fun V hx=>rangeMid hx 0 _ (fun i hi=>by rcases i with _|_|_|_|i<;>first|rfl|(simp at hi;omega))
 have HRP:Hid (∀V,BoxC V w.heap.size #[.int .i64 s,.int .i64 h,.int .i64 m,.bool z,.slice Ah hn hc,.slice Aw wn wc,.slice Ap pn pc,.int .i64 k,.bool true] 32→V.rangeAt w.heap.size 6 [.slice Ap pn pc,.int .i64 k]):=Lib.hid fun V hx=>rangeMid hx 6 _ (fun i hi=>by rcases i with _|_|i<;>first|rfl|(simp at hi;omega))
 clear hx0 hb0 hW1
 go_enter Tryz.func16,Tryz.ntmps16
 go_wp2_with (first
  |(rw[←HW1.out])
  |(refine wpList_load_mid rfl _ _ rfl w.heap.size 0 rfl [.int .i64 s,.int .i64 h,.int .i64 m,.bool z] _ (HRS.out _ HX0.out) Tryz.underlying27 rfl (szStyL ..) ?_)
  |fail)
 refine(sty8_any _ s h m z).mono ?_
 rintro e w1 ⟨rfl,hb1⟩
 have hx1:BoxC w1 w.heap.size #[.int .i64 s,.int .i64 h,.int .i64 m,.bool z,.slice Ah hn hc,.slice Aw wn wc,.slice Ap pn pc,.int .i64 k,.bool true] 32:=HX0.out.below hb1 HX0.out.lt
 have hb01:Below w.heap.size w w1:=HB0.out.trans (hb1.mono HB0.out.size)
 have c10:w1.cell? ⟨w.heap.size,0,none⟩=some (.int .i64 s):=hx1.cell.trans rfl
 have c11:w1.cell? ⟨w.heap.size,1,none⟩=some (.int .i64 h):=hx1.cell.trans rfl
 have c12:w1.cell? ⟨w.heap.size,2,none⟩=some (.int .i64 m):=hx1.cell.trans rfl
 have c13:w1.cell? ⟨w.heap.size,3,none⟩=some (.bool z):=hx1.cell.trans rfl
 have c14:w1.cell? ⟨w.heap.size,4,none⟩=some (.slice Ah hn hc):=hx1.cell.trans rfl
 have c15:w1.cell? ⟨w.heap.size,5,none⟩=some (.slice Aw wn wc):=hx1.cell.trans rfl
 have c16:w1.cell? ⟨w.heap.size,6,none⟩=some (.slice Ap pn pc):=hx1.cell.trans rfl
 have c17:w1.cell? ⟨w.heap.size,7,none⟩=some (.int .i64 k):=hx1.cell.trans rfl
 have c18:w1.cell? ⟨w.heap.size,8,none⟩=some (.bool true):=hx1.cell.trans rfl
 have HB:=Lib.hid hb01;have HX:=Lib.hid hx1
 clear hb1 hb01 hx1
 rw[hq]
 go_wp2_with (first
  |(refine wpList_load_mid rfl _ _ rfl w.heap.size 6 rfl [.slice Ap pn pc,.int .i64 k] _ (HRP.out _ HX.out) Tryz.underlying30 rfl (szPen11L _ _) ?_)
  |fail)
 refine(pcheck_any w1 Ap pn pc f k ((HR.out.below HB.out (Nat.le_refl _)).more HB.out.size)).mono ?_
 rintro e w2 ⟨rfl,hb2⟩
 have hx2:BoxC w2 w.heap.size #[.int .i64 s,.int .i64 h,.int .i64 m,.bool z,.slice Ah hn hc,.slice Aw wn wc,.slice Ap pn pc,.int .i64 k,.bool true] 32:=HX.out.below hb2 HX.out.lt
 have hb02:Below w.heap.size w w2:=HB.out.trans (hb2.mono HB.out.size)
 have c20:w2.cell? ⟨w.heap.size,0,none⟩=some (.int .i64 s):=hx2.cell.trans rfl
 have c21:w2.cell? ⟨w.heap.size,1,none⟩=some (.int .i64 h):=hx2.cell.trans rfl
 have c22:w2.cell? ⟨w.heap.size,2,none⟩=some (.int .i64 m):=hx2.cell.trans rfl
 have c23:w2.cell? ⟨w.heap.size,3,none⟩=some (.bool z):=hx2.cell.trans rfl
 have c24:w2.cell? ⟨w.heap.size,4,none⟩=some (.slice Ah hn hc):=hx2.cell.trans rfl
 have c25:w2.cell? ⟨w.heap.size,5,none⟩=some (.slice Aw wn wc):=hx2.cell.trans rfl
 have c26:w2.cell? ⟨w.heap.size,6,none⟩=some (.slice Ap pn pc):=hx2.cell.trans rfl
 have c27:w2.cell? ⟨w.heap.size,7,none⟩=some (.int .i64 k):=hx2.cell.trans rfl
 have c28:w2.cell? ⟨w.heap.size,8,none⟩=some (.bool true):=hx2.cell.trans rfl
 have HB2:=Lib.hid hb02
 clear hb2 hb02 hx2
 rw[hp]
 go_wp2
 go_ret
 exact⟨rfl,HB2.out⟩
theorem pchk_h(w:World)(s h m:Int)(z:Bool)(Ah:Option Addr)(hn hc:Nat)(Aw:Option Addr)(wn wc:Nat)(Ap:Option Addr)(pn pc:Nat)(k:Int)(f:Nat→Nat)(hr:RdB w w.heap.size Ap pn f)(hq:styE s h m=0)(hp:penE f pn k=0)(h2:(hn:Int)≤s)(h3:(wn:Int)<m)(h5:k≤7)(h6:¬0<wn)(h7:0<k):
  Calls Tryz.prog 16 #[.agg #[.int .i64 s,.int .i64 h,.int .i64 m,.bool z,.slice Ah hn hc,.slice Aw wn wc,.slice Ap pn pc,.int .i64 k,.bool true]] w fun e w'=>e=.returned (.int .i64 8)∧Below w.heap.size w w':=by
 have d2:decide (s<(hn:Int))=false:=decide_eq_false (by omega)
 have d3:decide (m≤(wn:Int))=false:=decide_eq_false (by omega)
 have d5:decide (7<k)=false:=decide_eq_false (by omega)
 have d6:decide ((0:Int)<(wn:Int))=false:=decide_eq_false (by omega)
 have d6n:decide (0<wn)=false:=decide_eq_false (by omega)
 have d7:decide ((0:Int)<k)=true:=decide_eq_true (by omega)
 clear h2 h3 h5
 have HR:=Lib.hid hr
 clear hr
 obtain⟨W1,hW1⟩:∃W,W=w.alloc (.cells #[.int .i64 s,.int .i64 h,.int .i64 m,.bool z,.slice Ah hn hc,.slice Aw wn wc,.slice Ap pn pc,.int .i64 k,.bool true] 32):=⟨_,rfl⟩
 have hx0:BoxC W1 w.heap.size #[.int .i64 s,.int .i64 h,.int .i64 m,.bool z,.slice Ah hn hc,.slice Aw wn wc,.slice Ap pn pc,.int .i64 k,.bool true] 32:=by rw[hW1];exact BoxC.new w _ _
 have hb0:Below w.heap.size w W1:=by rw[hW1];exact(Below.refl _ _).alloc (Nat.le_refl _) _
 have HX0:=Lib.hid hx0;have HB0:=Lib.hid hb0;have HW1:=Lib.hid hW1
 have HRS:Hid (∀V,BoxC V w.heap.size #[.int .i64 s,.int .i64 h,.int .i64 m,.bool z,.slice Ah hn hc,.slice Aw wn wc,.slice Ap pn pc,.int .i64 k,.bool true] 32→V.rangeAt w.heap.size 0 [.int .i64 s,.int .i64 h,.int .i64 m,.bool z]):=Lib.hid fun V hx=>rangeMid hx 0 _ (fun i hi=>by rcases i with _|_|_|_|i<;>first|rfl|(simp at hi;omega))
 have HRP:Hid (∀V,BoxC V w.heap.size #[.int .i64 s,.int .i64 h,.int .i64 m,.bool z,.slice Ah hn hc,.slice Aw wn wc,.slice Ap pn pc,.int .i64 k,.bool true] 32→V.rangeAt w.heap.size 6 [.slice Ap pn pc,.int .i64 k]):=Lib.hid fun V hx=>rangeMid hx 6 _ (fun i hi=>by rcases i with _|_|i<;>first|rfl|(simp at hi;omega))
 clear hx0 hb0 hW1
 go_enter Tryz.func16,Tryz.ntmps16
 go_wp2_with (first
  |(rw[←HW1.out])
  |(refine wpList_load_mid rfl _ _ rfl w.heap.size 0 rfl [.int .i64 s,.int .i64 h,.int .i64 m,.bool z] _ (HRS.out _ HX0.out) Tryz.underlying27 rfl (szStyL ..) ?_)
  |fail)
 refine(sty8_any _ s h m z).mono ?_
 rintro e w1 ⟨rfl,hb1⟩
 have hx1:BoxC w1 w.heap.size #[.int .i64 s,.int .i64 h,.int .i64 m,.bool z,.slice Ah hn hc,.slice Aw wn wc,.slice Ap pn pc,.int .i64 k,.bool true] 32:=HX0.out.below hb1 HX0.out.lt
 have hb01:Below w.heap.size w w1:=HB0.out.trans (hb1.mono HB0.out.size)
 have c10:w1.cell? ⟨w.heap.size,0,none⟩=some (.int .i64 s):=hx1.cell.trans rfl
 have c11:w1.cell? ⟨w.heap.size,1,none⟩=some (.int .i64 h):=hx1.cell.trans rfl
 have c12:w1.cell? ⟨w.heap.size,2,none⟩=some (.int .i64 m):=hx1.cell.trans rfl
 have c13:w1.cell? ⟨w.heap.size,3,none⟩=some (.bool z):=hx1.cell.trans rfl
 have c14:w1.cell? ⟨w.heap.size,4,none⟩=some (.slice Ah hn hc):=hx1.cell.trans rfl
 have c15:w1.cell? ⟨w.heap.size,5,none⟩=some (.slice Aw wn wc):=hx1.cell.trans rfl
 have c16:w1.cell? ⟨w.heap.size,6,none⟩=some (.slice Ap pn pc):=hx1.cell.trans rfl
 have c17:w1.cell? ⟨w.heap.size,7,none⟩=some (.int .i64 k):=hx1.cell.trans rfl
 have c18:w1.cell? ⟨w.heap.size,8,none⟩=some (.bool true):=hx1.cell.trans rfl
 have HB:=Lib.hid hb01;have HX:=Lib.hid hx1
 clear hb1 hb01 hx1
 rw[hq]
 go_wp2_with (first
  |(refine wpList_load_mid rfl _ _ rfl w.heap.size 6 rfl [.slice Ap pn pc,.int .i64 k] _ (HRP.out _ HX.out) Tryz.underlying30 rfl (szPen11L _ _) ?_)
  |fail)
 refine(pcheck_any w1 Ap pn pc f k ((HR.out.below HB.out (Nat.le_refl _)).more HB.out.size)).mono ?_
 rintro e w2 ⟨rfl,hb2⟩
 have hx2:BoxC w2 w.heap.size #[.int .i64 s,.int .i64 h,.int .i64 m,.bool z,.slice Ah hn hc,.slice Aw wn wc,.slice Ap pn pc,.int .i64 k,.bool true] 32:=HX.out.below hb2 HX.out.lt
 have hb02:Below w.heap.size w w2:=HB.out.trans (hb2.mono HB.out.size)
 have c20:w2.cell? ⟨w.heap.size,0,none⟩=some (.int .i64 s):=hx2.cell.trans rfl
 have c21:w2.cell? ⟨w.heap.size,1,none⟩=some (.int .i64 h):=hx2.cell.trans rfl
 have c22:w2.cell? ⟨w.heap.size,2,none⟩=some (.int .i64 m):=hx2.cell.trans rfl
 have c23:w2.cell? ⟨w.heap.size,3,none⟩=some (.bool z):=hx2.cell.trans rfl
 have c24:w2.cell? ⟨w.heap.size,4,none⟩=some (.slice Ah hn hc):=hx2.cell.trans rfl
 have c25:w2.cell? ⟨w.heap.size,5,none⟩=some (.slice Aw wn wc):=hx2.cell.trans rfl
 have c26:w2.cell? ⟨w.heap.size,6,none⟩=some (.slice Ap pn pc):=hx2.cell.trans rfl
 have c27:w2.cell? ⟨w.heap.size,7,none⟩=some (.int .i64 k):=hx2.cell.trans rfl
 have c28:w2.cell? ⟨w.heap.size,8,none⟩=some (.bool true):=hx2.cell.trans rfl
 have HB2:=Lib.hid hb02
 clear hb2 hb02 hx2
 rw[hp]
 go_wp2
 go_ret
 exact⟨rfl,HB2.out⟩
theorem pchk_i(w:World)(s h m:Int)(z:Bool)(Ah:Option Addr)(hn hc:Nat)(Aw:Option Addr)(wn wc:Nat)(Ap:Option Addr)(pn pc:Nat)(k:Int)(f:Nat→Nat)(hr:RdB w w.heap.size Ap pn f)(hq:styE s h m=0)(hp:penE f pn k=0)(h2:(hn:Int)≤s)(h3:(wn:Int)<m)(h6:¬0<wn)(h7:¬0<k):
  Calls Tryz.prog 16 #[.agg #[.int .i64 s,.int .i64 h,.int .i64 m,.bool z,.slice Ah hn hc,.slice Aw wn wc,.slice Ap pn pc,.int .i64 k,.bool true]] w fun e w'=>e=.returned (.int .i64 0)∧Below w.heap.size w w':=by
 have d2:decide (s<(hn:Int))=false:=decide_eq_false (by omega)
 have d3:decide (m≤(wn:Int))=false:=decide_eq_false (by omega)
 have d5:decide (7<k)=false:=decide_eq_false (by omega)
 have d6:decide ((0:Int)<(wn:Int))=false:=decide_eq_false (by omega)
 have d6n:decide (0<wn)=false:=decide_eq_false (by omega)
 have d7:decide ((0:Int)<k)=false:=decide_eq_false (by omega)
 clear h2 h3
 have HR:=Lib.hid hr
 clear hr
 obtain⟨W1,hW1⟩:∃W,W=w.alloc (.cells #[.int .i64 s,.int .i64 h,.int .i64 m,.bool z,.slice Ah hn hc,.slice Aw wn wc,.slice Ap pn pc,.int .i64 k,.bool true] 32):=⟨_,rfl⟩
 have hx0:BoxC W1 w.heap.size #[.int .i64 s,.int .i64 h,.int .i64 m,.bool z,.slice Ah hn hc,.slice Aw wn wc,.slice Ap pn pc,.int .i64 k,.bool true] 32:=by rw[hW1];exact BoxC.new w _ _
 have hb0:Below w.heap.size w W1:=by rw[hW1];exact(Below.refl _ _).alloc (Nat.le_refl _) _
 have HX0:=Lib.hid hx0;have HB0:=Lib.hid hb0;have HW1:=Lib.hid hW1
 have HRS:Hid (∀V,BoxC V w.heap.size #[.int .i64 s,.int .i64 h,.int .i64 m,.bool z,.slice Ah hn hc,.slice Aw wn wc,.slice Ap pn pc,.int .i64 k,.bool true] 32→V.rangeAt w.heap.size 0 [.int .i64 s,.int .i64 h,.int .i64 m,.bool z]):=Lib.hid fun V hx=>rangeMid hx 0 _ (fun i hi=>by rcases i with _|_|_|_|i<;>first|rfl|(simp at hi;omega))
 have HRP:Hid (∀V,BoxC V w.heap.size #[.int .i64 s,.int .i64 h,.int .i64 m,.bool z,.slice Ah hn hc,.slice Aw wn wc,.slice Ap pn pc,.int .i64 k,.bool true] 32→V.rangeAt w.heap.size 6 [.slice Ap pn pc,.int .i64 k]):=Lib.hid fun V hx=>rangeMid hx 6 _ (fun i hi=>by rcases i with _|_|i<;>first|rfl|(simp at hi;omega))
 clear hx0 hb0 hW1
 go_enter Tryz.func16,Tryz.ntmps16
 go_wp2_with (first
  |(rw[←HW1.out])
  |(refine wpList_load_mid rfl _ _ rfl w.heap.size 0 rfl [.int .i64 s,.int .i64 h,.int .i64 m,.bool z] _ (HRS.out _ HX0.out) Tryz.underlying27 rfl (szStyL ..) ?_)
  |fail)
 refine(sty8_any _ s h m z).mono ?_
 rintro e w1 ⟨rfl,hb1⟩
 have hx1:BoxC w1 w.heap.size #[.int .i64 s,.int .i64 h,.int .i64 m,.bool z,.slice Ah hn hc,.slice Aw wn wc,.slice Ap pn pc,.int .i64 k,.bool true] 32:=HX0.out.below hb1 HX0.out.lt
 have hb01:Below w.heap.size w w1:=HB0.out.trans (hb1.mono HB0.out.size)
 have c10:w1.cell? ⟨w.heap.size,0,none⟩=some (.int .i64 s):=hx1.cell.trans rfl
 have c11:w1.cell? ⟨w.heap.size,1,none⟩=some (.int .i64 h):=hx1.cell.trans rfl
 have c12:w1.cell? ⟨w.heap.size,2,none⟩=some (.int .i64 m):=hx1.cell.trans rfl
 have c13:w1.cell? ⟨w.heap.size,3,none⟩=some (.bool z):=hx1.cell.trans rfl
 have c14:w1.cell? ⟨w.heap.size,4,none⟩=some (.slice Ah hn hc):=hx1.cell.trans rfl
 have c15:w1.cell? ⟨w.heap.size,5,none⟩=some (.slice Aw wn wc):=hx1.cell.trans rfl
 have c16:w1.cell? ⟨w.heap.size,6,none⟩=some (.slice Ap pn pc):=hx1.cell.trans rfl
 have c17:w1.cell? ⟨w.heap.size,7,none⟩=some (.int .i64 k):=hx1.cell.trans rfl
 have c18:w1.cell? ⟨w.heap.size,8,none⟩=some (.bool true):=hx1.cell.trans rfl
 have HB:=Lib.hid hb01;have HX:=Lib.hid hx1
 clear hb1 hb01 hx1
 rw[hq]
 go_wp2_with (first
  |(refine wpList_load_mid rfl _ _ rfl w.heap.size 6 rfl [.slice Ap pn pc,.int .i64 k] _ (HRP.out _ HX.out) Tryz.underlying30 rfl (szPen11L _ _) ?_)
  |fail)
 refine(pcheck_any w1 Ap pn pc f k ((HR.out.below HB.out (Nat.le_refl _)).more HB.out.size)).mono ?_
 rintro e w2 ⟨rfl,hb2⟩
 have hx2:BoxC w2 w.heap.size #[.int .i64 s,.int .i64 h,.int .i64 m,.bool z,.slice Ah hn hc,.slice Aw wn wc,.slice Ap pn pc,.int .i64 k,.bool true] 32:=HX.out.below hb2 HX.out.lt
 have hb02:Below w.heap.size w w2:=HB.out.trans (hb2.mono HB.out.size)
 have c20:w2.cell? ⟨w.heap.size,0,none⟩=some (.int .i64 s):=hx2.cell.trans rfl
 have c21:w2.cell? ⟨w.heap.size,1,none⟩=some (.int .i64 h):=hx2.cell.trans rfl
 have c22:w2.cell? ⟨w.heap.size,2,none⟩=some (.int .i64 m):=hx2.cell.trans rfl
 have c23:w2.cell? ⟨w.heap.size,3,none⟩=some (.bool z):=hx2.cell.trans rfl
 have c24:w2.cell? ⟨w.heap.size,4,none⟩=some (.slice Ah hn hc):=hx2.cell.trans rfl
 have c25:w2.cell? ⟨w.heap.size,5,none⟩=some (.slice Aw wn wc):=hx2.cell.trans rfl
 have c26:w2.cell? ⟨w.heap.size,6,none⟩=some (.slice Ap pn pc):=hx2.cell.trans rfl
 have c27:w2.cell? ⟨w.heap.size,7,none⟩=some (.int .i64 k):=hx2.cell.trans rfl
 have c28:w2.cell? ⟨w.heap.size,8,none⟩=some (.bool true):=hx2.cell.trans rfl
 have HB2:=Lib.hid hb02
 clear hb2 hb02 hx2
 rw[hp]
 go_wp2
 go_ret
 exact⟨rfl,HB2.out⟩
theorem pchk_all(w:World)(s h m:Int)(z:Bool)(Ah:Option Addr)(hn hc:Nat)(Aw:Option Addr)(wn wc:Nat)(Ap:Option Addr)(pn pc:Nat)(k:Int)(ov:Bool)(f:Nat→Nat)(hr:RdB w w.heap.size Ap pn f):
  Calls Tryz.prog 16 #[.agg #[.int .i64 s,.int .i64 h,.int .i64 m,.bool z,.slice Ah hn hc,.slice Aw wn wc,.slice Ap pn pc,.int .i64 k,.bool ov]] w fun e w'=>e=.returned (.int .i64 (if mayQ (mayS s h m) s m hn wn (penB f pn k) k ov then 0 else 8))∧Below w.heap.size w w':=by
 have key:∀(b:Bool) (v:Int),mayQ (mayS s h m) s m hn wn (penB f pn k) k ov=b→v=(if b then 0 else 8)→Calls Tryz.prog 16 #[.agg #[.int .i64 s,.int .i64 h,.int .i64 m,.bool z,.slice Ah hn hc,.slice Aw wn wc,.slice Ap pn pc,.int .i64 k,.bool ov]] w (fun e w'=>e=.returned (.int .i64 v)∧Below w.heap.size w w')→Calls Tryz.prog 16 #[.agg #[.int .i64 s,.int .i64 h,.int .i64 m,.bool z,.slice Ah hn hc,.slice Aw wn wc,.slice Ap pn pc,.int .i64 k,.bool ov]] w (fun e w'=>e=.returned (.int .i64 (if mayQ (mayS s h m) s m hn wn (penB f pn k) k ov then 0 else 8))∧Below w.heap.size w w'):=fun b v e1 e2 hc=>by rw[e1,←e2];exact hc
 cases hq:mayS s h m with
 |false=>rw[hq]at key;exact key false 8 rfl rfl (pchk_a w s h m z Ah hn hc Aw wn wc Ap pn pc k ov f hr (by unfold styE;rw[hq];rfl))
 |true=>
  have sq:styE s h m=0:=by unfold styE;rw[hq];rfl
  rw[hq]at key
  cases hp:penB f pn k with
  |false=>rw[hp]at key;exact key false 8 (by simp[mayQ]) rfl (pchk_d w s h m z Ah hn hc Aw wn wc Ap pn pc k ov f hr sq (by unfold penE;rw[hp];rfl))
  |true=>
   have pq:penE f pn k=0:=by unfold penE;rw[hp];rfl
   have hk0:0≤k:=by
    obtain⟨K,e,_⟩:=check_clean hr.1 pq
    omega
   rw[hp]at key
   by_cases h2:(hn:Int)≤s
   ·by_cases h3:(wn:Int)<m
    ·by_cases h5:k≤7
     ·cases ov with
      |false=>exact key true 0 (by simp[mayQ,h2,h3,h5]) rfl (pchk_f w s h m z Ah hn hc Aw wn wc Ap pn pc k f hr sq pq h2 h3 h5)
      |true=>
       by_cases h6:0<wn
       ·exact key false 8 (by simp[mayQ];omega) rfl (pchk_g w s h m z Ah hn hc Aw wn wc Ap pn pc k f hr sq pq h2 h3 h5 h6)
       ·by_cases h7:0<k
        ·exact key false 8 (by simp[mayQ];omega) rfl (pchk_h w s h m z Ah hn hc Aw wn wc Ap pn pc k f hr sq pq h2 h3 h5 h6 h7)
        ·have e6:wn=0:=by omega
         have e7:k=0:=by omega
         exact key true 0 (by subst e6;subst e7;simp[mayQ,h2];omega) rfl (pchk_i w s h m z Ah hn hc Aw wn wc Ap pn pc k f hr sq pq h2 h3 h6 h7)
     ·exact key false 8 (by simp[mayQ,h5]) rfl (pchk_e w s h m z Ah hn hc Aw wn wc Ap pn pc k ov f hr sq pq h2 h3 (by omega))
    ·exact key false 8 (by simp[mayQ,h3]) rfl (pchk_c w s h m z Ah hn hc Aw wn wc Ap pn pc k ov f hr sq pq h2 (by omega))
   ·exact key false 8 (by simp[mayQ,h2]) rfl (pchk_b w s h m z Ah hn hc Aw wn wc Ap pn pc k ov f hr sq pq (by omega))
theorem check_pcon:PCheckCon:=by
 intro w p Ah hc Aw wc Ap pc hp
 exact pchk_all w p.s p.h p.m p.z Ah p.hist.length hc Aw p.wait.length wc Ap p.pen.length pc p.k p.over (lst p.pen) hp.pen.1
end Go.Proofs.YtokpcpjnihinfaaGreat
