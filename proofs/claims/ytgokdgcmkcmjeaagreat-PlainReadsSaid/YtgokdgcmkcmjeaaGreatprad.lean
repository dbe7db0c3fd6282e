/-
  Words and walks.
-/
import Derived.BigRegion
import Derived.BigQuiet
import Derived.StillTail
import Derived.Deep.Quiet
import Derived.Laws.Tables
import Derived.Great.BuildSlice
import Derived.Deep.MidRow
import Derived.Deep.SlicePairs
import Derived.Lib.SmallJoins
import Derived.OneCell
import Derived.Deep.DeepCutAuto
import Derived.RangeFuncOwn
import Derived.Test.YtgokdgcmkcmjeaaGreatpraa
import Derived.Test.YtgokdgcmkcmjeaaGreatprab
import Derived.Test.YtgokdgcmkcmjeaaGreatprac
set_option maxRecDepth 100000
set_option maxHeartbeats 16000000
namespace Go.Proofs.YtgokdgcmkcmjeaaGreat
open Go.RowKit
theorem decN{p:Prop}[Decidable p](h:¬p):decide p=false:=by simp[h]
theorem decY{p:Prop}[Decidable p](h:p):decide p=true:=by simp[h]
def p2N(k:Nat):Nat:=2^k
theorem p2N_le{k:Nat}(h:k≤20):p2N k≤1048576:=by
 have:=Nat.pow_le_pow_right (n:=2) (by omega) h
 exact this
theorem rpower9_any(w:World)(n:Nat)(hn:n≤20):Calls Tryz.prog 155 #[.int .i64 (n:Int)] w fun e w'=>e=.returned (.int .i64 (p2N n:Int))∧w=w':=by
 go_enter Tryz.func155,Tryz.ntmps155
 go_wp2
 go_loopw [3,4] (fun pv iv wr=>∃i q:Nat,i≤n∧q≤1048576∧iv=.int .i64 (i:Int)∧pv=.int .i64 (q:Int)∧Hid (q=p2N i)∧w=wr) (fun _ iv _=>n-(intOf iv).toNat)
 case atStart=>exact⟨0,1,Nat.zero_le _,by omega,rfl,rfl,Lib.hid rfl,rfl⟩
 case round=>
  obtain⟨i,q,hi,hq,rfl,rfl,HQ,rfl⟩:=hrel
  by_cases hlt:i<n
  ·have hlti:(i:Int)<(n:Int):=by omega
   have hq2:2*q=p2N (i+1):=by rw[HQ.out];unfold p2N;rw[Nat.pow_succ];omega
   have hq3:2*q≤1048576:=by rw[hq2];exact p2N_le (by omega)
   obtain⟨r,hr⟩:∃r,r=2*q:=⟨_,rfl⟩
   have er:(2:Int)*(q:Int)=(r:Int):=by omega
   rw[←hr]at hq2 hq3
   have HQ2:=Lib.hid hq2
   clear hr hq2
   go_wp2
   go_roundw
   case rel=>exact⟨i+1,r,by omega,hq3,by go_num,by go_num,HQ2,trivial⟩
   case measure=>simp[intOf];omega
  ·obtain rfl:i=n:=by omega
   have hlti:¬(i:Int)<(i:Int):=by omega
   have hq:=HQ.out
   subst hq
   go_wp2
   go_ret
   exact⟨rfl,rfl⟩
def twoV(w:World)(z p q:Array Value)(t:TypeId):World:=(((w.alloc (.cells z t)).alloc (.cells z t)).setRow w.heap.size p).setRow (w.heap.size+1) q
theorem two_rows(w:World)(z p q:Array Value)(t:TypeId):((w.alloc (.cells z t)).alloc (.cells z t)).heap[w.heap.size]?=some (.cells z t (0,0))∧(((w.alloc (.cells z t)).alloc (.cells z t)).setRow w.heap.size p).heap[w.heap.size+1]?=some (.cells z t (0,0))∧
  (twoV w z p q t).heap[w.heap.size]?=some (.cells p t (0,0))∧(twoV w z p q t).heap[w.heap.size+1]?=some (.cells q t (0,0))∧Below w.heap.size w (twoV w z p q t):=by
 have h1:((w.alloc (.cells z t)).alloc (.cells z t)).heap[w.heap.size]?=some (.cells z t (0,0)):=(Below.heap_alloc _ _ _ (by simp)).trans (heap_alloc_new w _)
 have h2:((w.alloc (.cells z t)).alloc (.cells z t)).heap[w.heap.size+1]?=some (.cells z t (0,0)):=by
  have:=heap_alloc_new (w.alloc (.cells z t)) (.cells z t)
  rw[World.size_alloc]at this;exact this
 have h3:=(setRow_other ((w.alloc (.cells z t)).alloc (.cells z t)) w.heap.size (w.heap.size+1) p (by omega)).trans h2
 refine⟨h1,h3,?_,setRow_heap _ _ _ _ _ _ h3,?_⟩
 ·exact(setRow_other _ _ _ _ (by omega)).trans (setRow_heap _ _ _ _ _ _ h1)
 ·exact below_row9 (below_row9 (((Below.refl _ _).alloc (Nat.le_refl _) _).alloc (by simp) _) (Nat.le_refl _) _) (by omega) _
theorem rlbit9_any(w:World)(s:Int):Calls Tryz.prog 108 #[.int .i64 s] w fun e w'=>e=.returned (.tuple #[.int .i64 (lbV s),.int .i64 (lbE s)])∧Below w.heap.size w w':=by
 by_cases y0:s<257
 ·skip
  have e1:lbE s=90:=if_neg (by omega)
  have e2:lbV s=0:=if_neg (by omega)
  rw[e1,e2]
  have d0:decide (s<257)=true:=decY y0
  clear e1 e2
  go_enter Tryz.func108,Tryz.ntmps108
  go_wp2
  go_ret2
  exact⟨rfl,Below.refl _ _⟩
 have d0:decide (s<257)=false:=decN y0
 by_cases y1:285<s
 ·skip
  have e1:lbE s=90:=if_neg (by omega)
  have e2:lbV s=0:=if_neg (by omega)
  rw[e1,e2]
  have d1:decide (285<s)=true:=decY y1
  clear e1 e2
  go_enter Tryz.func108,Tryz.ntmps108
  go_wp2
  go_ret2
  exact⟨rfl,Below.refl _ _⟩
 have d1:decide (285<s)=false:=decN y1
 have hz:=(zero_of_info inforlongs).1
 obtain⟨I,hI⟩:∃I,I=(s-257).toNat:=⟨_,rfl⟩
 have e1:lbE s=0:=if_pos (by omega)
 have e2:lbV s=((longX I:Nat):Int):=by unfold lbV;rw[if_pos (by omega),←hI]
 rw[e1,e2]
 obtain⟨xI,hxI⟩:∃xI,xI=longX I:=⟨_,rfl⟩
 rw[←hxI]
 have hs:s=257+(I:Int):=by omega
 have hin:I<29:=by omega
 have HXI:=Lib.hid hxI;have HLO:=Lib.hid (rlongs_any w)
 have hsub:s-257=(I:Int):=by omega
 have HSUB:=Lib.hid hsub
 clear e1 e2 hxI hI
 subst hs
 have hsub2:257+(I:Int)-257=(I:Int):=by omega
 go_enter Tryz.func108,Tryz.ntmps108
 go_wp2_with fail
 refine HLO.out.mono ?_
 rintro e w1 ⟨rfl,hb1⟩
 obtain⟨t1,t2,t3,t4,t5⟩:=two_rows w1 (tblA (fun _=>0) 29) (tblA (fun i=>(longT i:Int)) 29) (tblA (fun i=>(longX i:Int)) 29) 224
 obtain⟨V,hV⟩:∃V,V=twoV w1 (tblA (fun _=>0) 29) (tblA (fun i=>(longT i:Int)) 29) (tblA (fun i=>(longX i:Int)) 29) 224:=⟨_,rfl⟩
 rw[←hV]at t3 t4 t5
 have TA:=Lib.hid t1;have TB:=Lib.hid t2;have TC:=Lib.hid t3;have TD:=Lib.hid t4;have HBV:=Lib.hid (hb1.trans (t5.mono hb1.size));have HV:=Lib.hid hV
 obtain⟨b,hb⟩:∃b,b=w1.heap.size:=⟨_,rfl⟩
 have HB:=Lib.hid hb
 clear t1 t2 t3 t4 t5 hb1 hV hb
 have c4:V.cell? ⟨w1.heap.size+1,I,none⟩=some (.int .i64 (xI:Int)):=by rw[HXI.out];exact tbl_cell TD.out hin
 have ha1:(I:Int)<29:=by omega
 have ha0:¬(I:Int)<0:=by omega
 have ha2:¬(29:Int)≤(I:Int):=by omega
 go_wp2_with (first
  |(refine wpList_store_rowTo rfl _ _ _ rfl rfl w1.heap.size (tblA (fun i=>(longT i:Int)) 29) rfl rfl 224 (tblA (fun _=>0) 29) TA.out (szA29 _) (by rw[tblA_size,tblA_size]) (tblA_one _ _) ?_)
  |(refine wpList_store_rowTo rfl _ _ _ rfl rfl (w1.heap.size+1) (tblA (fun i=>(longX i:Int)) 29) rfl rfl 224 (tblA (fun _=>0) 29) TB.out (szA29 _) (by rw[tblA_size,tblA_size]) (tblA_one _ _) ?_;change wpList _ _ _ _ _ (twoV w1 (tblA (fun _=>0) 29) (tblA (fun i=>(longT i:Int)) 29) (tblA (fun i=>(longX i:Int)) 29) 224);rw[←HV.out]))
 go_ret2
 exact⟨rfl,HBV.out⟩
theorem rfbit9_any(w:World)(s:Int):Calls Tryz.prog 109 #[.int .i64 s] w fun e w'=>e=.returned (.tuple #[.int .i64 (fbV s),.int .i64 (fbE s)])∧Below w.heap.size w w':=by
 by_cases y0:s<0
 ·skip
  have e1:fbE s=90:=if_neg (by omega)
  have e2:fbV s=0:=if_neg (by omega)
  rw[e1,e2]
  have d0:decide (s<0)=true:=decY y0
  clear e1 e2
  go_enter Tryz.func109,Tryz.ntmps109
  go_wp2
  go_ret2
  exact⟨rfl,Below.refl _ _⟩
 have d0:decide (s<0)=false:=decN y0
 by_cases y1:29<s
 ·skip
  have e1:fbE s=90:=if_neg (by omega)
  have e2:fbV s=0:=if_neg (by omega)
  rw[e1,e2]
  have d1:decide (29<s)=true:=decY y1
  clear e1 e2
  go_enter Tryz.func109,Tryz.ntmps109
  go_wp2
  go_ret2
  exact⟨rfl,Below.refl _ _⟩
 have d1:decide (29<s)=false:=decN y1
 have hz:=(zero_of_info inforfars).1
 obtain⟨I,hI⟩:∃I,I=s.toNat:=⟨_,rfl⟩
 have e1:fbE s=0:=if_pos (by omega)
 have e2:fbV s=((farX I:Nat):Int):=by unfold fbV;rw[if_pos (by omega),←hI]
 rw[e1,e2]
 obtain⟨xI,hxI⟩:∃xI,xI=farX I:=⟨_,rfl⟩
 rw[←hxI]
 have hs:s=(I:Int):=by omega
 have hin:I<30:=by omega
 have HXI:=Lib.hid hxI;have HLO:=Lib.hid (rfars_any w)
 have hsub:s=(I:Int):=by omega
 have HSUB:=Lib.hid hsub
 clear e1 e2 hxI hI
 subst hs
 have hsub2:(I:Int)=(I:Int):=by omega
 go_enter Tryz.func109,Tryz.ntmps109
 go_wp2_with fail
 refine HLO.out.mono ?_
 rintro e w1 ⟨rfl,hb1⟩
 obtain⟨t1,t2,t3,t4,t5⟩:=two_rows w1 (tblA (fun _=>0) 30) (tblA (fun i=>(farT i:Int)) 30) (tblA (fun i=>(farX i:Int)) 30) 151
 obtain⟨V,hV⟩:∃V,V=twoV w1 (tblA (fun _=>0) 30) (tblA (fun i=>(farT i:Int)) 30) (tblA (fun i=>(farX i:Int)) 30) 151:=⟨_,rfl⟩
 rw[←hV]at t3 t4 t5
 have TA:=Lib.hid t1;have TB:=Lib.hid t2;have TC:=Lib.hid t3;have TD:=Lib.hid t4;have HBV:=Lib.hid (hb1.trans (t5.mono hb1.size));have HV:=Lib.hid hV
 obtain⟨b,hb⟩:∃b,b=w1.heap.size:=⟨_,rfl⟩
 have HB:=Lib.hid hb
 clear t1 t2 t3 t4 t5 hb1 hV hb
 have c4:V.cell? ⟨w1.heap.size+1,I,none⟩=some (.int .i64 (xI:Int)):=by rw[HXI.out];exact tbl_cell TD.out hin
 have ha1:(I:Int)<30:=by omega
 have ha0:¬(I:Int)<0:=by omega
 have ha2:¬(30:Int)≤(I:Int):=by omega
 go_wp2_with (first
  |(refine wpList_store_rowTo rfl _ _ _ rfl rfl w1.heap.size (tblA (fun i=>(farT i:Int)) 30) rfl rfl 151 (tblA (fun _=>0) 30) TA.out (szA30 _) (by rw[tblA_size,tblA_size]) (tblA_one _ _) ?_)
  |(refine wpList_store_rowTo rfl _ _ _ rfl rfl (w1.heap.size+1) (tblA (fun i=>(farX i:Int)) 30) rfl rfl 151 (tblA (fun _=>0) 30) TB.out (szA30 _) (by rw[tblA_size,tblA_size]) (tblA_one _ _) ?_;change wpList _ _ _ _ _ (twoV w1 (tblA (fun _=>0) 30) (tblA (fun i=>(farT i:Int)) 30) (tblA (fun i=>(farX i:Int)) 30) 151);rw[←HV.out]))
 go_ret2
 exact⟨rfl,HBV.out⟩
theorem rlof9_any(w:World)(s x:Int):Calls Tryz.prog 110 #[.int .i64 s,.int .i64 x] w fun e w'=>e=.returned (.tuple #[.int .i64 (loV s x),.int .i64 (loE s x)])∧Below w.heap.size w w':=by
 have hbi:=rlbit9_any w s
 by_cases y0:257≤s∧s≤285
 ·have b1:lbE s=0:=if_pos y0
  have b2:lbV s=((longX (s-257).toNat:Nat):Int):=if_pos y0
  rw[b1,b2]at hbi
  obtain⟨I,hI⟩:∃I,I=(s-257).toNat:=⟨_,rfl⟩
  have e0:loE s x=if x<0∨((2^longX (s-257).toNat:Nat):Int)≤x then 2 else if s=284∧x=31 then 90 else 0:=if_pos y0
  have e9:loV s x=if loE s x=0 then((longT (s-257).toNat:Nat):Int)+x else 0:=rfl
  rw[←hI]at hbi e0 e9
  have hin:I<29:=by omega
  have hxl:=longX_le I
  have hsub:s-257=(I:Int):=by omega
  skip
  have htl:longT I≤32768:=all_lt (P:=fun i=>longT i≤32768) (n:=29) (by decide+kernel) I hin
  obtain⟨tI,htI⟩:∃tI,tI=longT I:=⟨_,rfl⟩
  obtain⟨xI,hxI⟩:∃xI,xI=longX I:=⟨_,rfl⟩
  obtain⟨EE,hEE⟩:∃EE,EE=loE s x:=⟨_,rfl⟩
  obtain⟨VV,hVV⟩:∃VV,VV=loV s x:=⟨_,rfl⟩
  rw[←hxI]at hbi e0 hxl
  rw[←htI]at e9 htl
  rw[←hEE]at e0 e9⊢
  rw[←hVV]at e9⊢
  have hpw:=rpower9_any
  obtain⟨p,hp⟩:∃p,p=p2N xI:=⟨_,rfl⟩
  have hp2:((2^xI:Nat):Int)=(p:Int):=by rw[hp];rfl
  have hpl:p≤1048576:=by rw[hp];exact p2N_le (by omega)
  rw[hp2]at e0
  have HBI:=Lib.hid hbi;have HTI:=Lib.hid htI;have HP:=Lib.hid hp;have E0:=Lib.hid e0;have E9:=Lib.hid e9;have HLO:=Lib.hid (fun w=>rlongs_any w)
  have HPW:Hid (∀w,Calls Tryz.prog 155 #[.int .i64 (xI:Int)] w fun e w'=>e=.returned (.int .i64 (p:Int))∧w=w'):=Lib.hid fun w=>by rw[hp];exact rpower9_any w xI (by omega)
  have hz:=(zero_of_info inforlongs).1
  clear hbi hxI htI hEE hVV hp hp2 e0 e9 hpw b1 b2
  try clear hI
  by_cases x0:x<0
  ·have d0:decide (x<0)=true:=decY x0
   obtain rfl:EE=2:=by rw[E0.out,if_pos (.inl x0)]
   obtain rfl:VV=0:=by rw[E9.out,if_neg (by omega)]
   clear E0 E9
   go_enter Tryz.func110,Tryz.ntmps110
   go_wp2_with fail
   refine HBI.out.mono ?_
   rintro e w1 ⟨rfl,hb1⟩
   go_wp2
   go_ret2
   exact⟨rfl,hb1⟩
  have d0:decide (x<0)=false:=decN x0
  by_cases x1:(p:Int)≤x
  ·have d1:decide ((p:Int)≤x)=true:=decY x1
   obtain rfl:EE=2:=by rw[E0.out,if_pos (.inr x1)]
   obtain rfl:VV=0:=by rw[E9.out,if_neg (by omega)]
   clear E0 E9
   go_enter Tryz.func110,Tryz.ntmps110
   go_wp2_with fail
   refine HBI.out.mono ?_
   rintro e w1 ⟨rfl,hb1⟩
   go_wp2_with (go_at_call 155;refine(HPW.out _).mono ?_;rintro e w' ⟨rfl,rfl⟩)
   go_ret2
   exact⟨rfl,hb1⟩
  have d1:decide ((p:Int)≤x)=false:=decN x1
  have e2:=E0.out
  rw[if_neg (by omega)]at e2
  have E2:=Lib.hid e2
  clear e2 E0
  by_cases s4:s=284
  ·by_cases x31:x=31
   ·obtain rfl:EE=90:=by rw[E2.out,if_pos ⟨s4,x31⟩]
    obtain rfl:VV=0:=by rw[E9.out,if_neg (by omega)]
    have g1:(s==284)=true:=by simp[s4]
    have g2:(x==31)=true:=by simp[x31]
    clear E2 E9 s4 x31
    go_enter Tryz.func110,Tryz.ntmps110
    go_wp2_with fail
    refine HBI.out.mono ?_
    rintro e w1 ⟨rfl,hb1⟩
    go_wp2_with (go_at_call 155;refine(HPW.out _).mono ?_;rintro e w' ⟨rfl,rfl⟩)
    go_ret2
    exact⟨rfl,hb1⟩
   ·obtain rfl:EE=0:=by rw[E2.out,if_neg (fun q=>x31 q.2)]
    have g1:(s==284)=true:=by simp[s4]
    have g2:(x==31)=false:=by simp[x31]
    clear s4 x31
    obtain rfl:VV=(tI:Int)+x:=by rw[E9.out,if_pos rfl]
    clear E2 E9
    obtain⟨y,rfl⟩:=Int.eq_ofNat_of_zero_le (show 0≤x by omega)
    have hyb:y≤1048576:=by omega
    go_enter Tryz.func110,Tryz.ntmps110
    go_wp2_with fail
    refine HBI.out.mono ?_
    rintro e w0 ⟨rfl,hb0⟩
    have HB0:=Lib.hid hb0
    clear hb0
    go_wp2_with (go_at_call 155;refine(HPW.out _).mono ?_;rintro e w' ⟨rfl,rfl⟩)
    refine(HLO.out w0).mono ?_
    rintro e w1 ⟨rfl,hb1⟩
    obtain⟨t1,t2,t3,t4,t5⟩:=two_rows w1 (tblA (fun _=>0) 29) (tblA (fun i=>(longT i:Int)) 29) (tblA (fun i=>(longX i:Int)) 29) 224
    obtain⟨V,hV⟩:∃V,V=twoV w1 (tblA (fun _=>0) 29) (tblA (fun i=>(longT i:Int)) 29) (tblA (fun i=>(longX i:Int)) 29) 224:=⟨_,rfl⟩
    rw[←hV]at t3 t4 t5
    have TA:=Lib.hid t1;have TB:=Lib.hid t2;have TC:=Lib.hid t3;have TD:=Lib.hid t4;have HBV:=Lib.hid (HB0.out.trans ((hb1.trans (t5.mono hb1.size)).mono HB0.out.size));have HV:=Lib.hid hV
    obtain⟨b,hb⟩:∃b,b=w1.heap.size:=⟨_,rfl⟩
    have HB:=Lib.hid hb
    clear t1 t2 t3 t4 t5 hb1 hV hb
    have c4:V.cell? ⟨w1.heap.size,I,none⟩=some (.int .i64 (tI:Int)):=by rw[HTI.out];exact tbl_cell TC.out hin
    have ha1:(I:Int)<29:=by omega
    have ha0:¬(I:Int)<0:=by omega
    have ha2:¬(29:Int)≤(I:Int):=by omega
    go_wp2_with (first
     |(refine wpList_store_rowTo rfl _ _ _ rfl rfl w1.heap.size (tblA (fun i=>(longT i:Int)) 29) rfl rfl 224 (tblA (fun _=>0) 29) TA.out (szA29 _) (by rw[tblA_size,tblA_size]) (tblA_one _ _) ?_)
     |(refine wpList_store_rowTo rfl _ _ _ rfl rfl (w1.heap.size+1) (tblA (fun i=>(longX i:Int)) 29) rfl rfl 224 (tblA (fun _=>0) 29) TB.out (szA29 _) (by rw[tblA_size,tblA_size]) (tblA_one _ _) ?_;change wpList _ _ _ _ _ (twoV w1 (tblA (fun _=>0) 29) (tblA (fun i=>(longT i:Int)) 29) (tblA (fun i=>(longX i:Int)) 29) 224);rw[←HV.out]))
    go_ret2
    exact⟨rfl,HBV.out⟩
  obtain rfl:EE=0:=by rw[E2.out,if_neg (fun q=>s4 q.1)]
  have g1:(s==284)=false:=by simp[s4]
  clear s4
  obtain rfl:VV=(tI:Int)+x:=by rw[E9.out,if_pos rfl]
  clear E2 E9
  obtain⟨y,rfl⟩:=Int.eq_ofNat_of_zero_le (show 0≤x by omega)
  have hyb:y≤1048576:=by omega
  go_enter Tryz.func110,Tryz.ntmps110
  go_wp2_with fail
  refine HBI.out.mono ?_
  rintro e w0 ⟨rfl,hb0⟩
  have HB0:=Lib.hid hb0
  clear hb0
  go_wp2_with (go_at_call 155;refine(HPW.out _).mono ?_;rintro e w' ⟨rfl,rfl⟩)
  refine(HLO.out w0).mono ?_
  rintro e w1 ⟨rfl,hb1⟩
  obtain⟨t1,t2,t3,t4,t5⟩:=two_rows w1 (tblA (fun _=>0) 29) (tblA (fun i=>(longT i:Int)) 29) (tblA (fun i=>(longX i:Int)) 29) 224
  obtain⟨V,hV⟩:∃V,V=twoV w1 (tblA (fun _=>0) 29) (tblA (fun i=>(longT i:Int)) 29) (tblA (fun i=>(longX i:Int)) 29) 224:=⟨_,rfl⟩
  rw[←hV]at t3 t4 t5
  have TA:=Lib.hid t1;have TB:=Lib.hid t2;have TC:=Lib.hid t3;have TD:=Lib.hid t4;have HBV:=Lib.hid (HB0.out.trans ((hb1.trans (t5.mono hb1.size)).mono HB0.out.size));have HV:=Lib.hid hV
  obtain⟨b,hb⟩:∃b,b=w1.heap.size:=⟨_,rfl⟩
  have HB:=Lib.hid hb
  clear t1 t2 t3 t4 t5 hb1 hV hb
  have c4:V.cell? ⟨w1.heap.size,I,none⟩=some (.int .i64 (tI:Int)):=by rw[HTI.out];exact tbl_cell TC.out hin
  have ha1:(I:Int)<29:=by omega
  have ha0:¬(I:Int)<0:=by omega
  have ha2:¬(29:Int)≤(I:Int):=by omega
  go_wp2_with (first
   |(refine wpList_store_rowTo rfl _ _ _ rfl rfl w1.heap.size (tblA (fun i=>(longT i:Int)) 29) rfl rfl 224 (tblA (fun _=>0) 29) TA.out (szA29 _) (by rw[tblA_size,tblA_size]) (tblA_one _ _) ?_)
   |(refine wpList_store_rowTo rfl _ _ _ rfl rfl (w1.heap.size+1) (tblA (fun i=>(longX i:Int)) 29) rfl rfl 224 (tblA (fun _=>0) 29) TB.out (szA29 _) (by rw[tblA_size,tblA_size]) (tblA_one _ _) ?_;change wpList _ _ _ _ _ (twoV w1 (tblA (fun _=>0) 29) (tblA (fun i=>(longT i:Int)) 29) (tblA (fun i=>(longX i:Int)) 29) 224);rw[←HV.out]))
  go_ret2
  exact⟨rfl,HBV.out⟩
 ·have b1:lbE s=90:=if_neg y0
  have b2:lbV s=0:=if_neg y0
  have e1:loE s x=90:=if_neg y0
  have e2:loV s x=0:=if_neg (by rw[e1];omega)
  rw[b1,b2]at hbi
  rw[e1,e2]
  have HBI:=Lib.hid hbi
  clear hbi b1 b2 e1 e2
  go_enter Tryz.func110,Tryz.ntmps110
  go_wp2_with fail
  refine HBI.out.mono ?_
  rintro e w1 ⟨rfl,hb1⟩
  go_wp2
  go_ret2
  exact⟨rfl,hb1⟩
theorem rfof9_any(w:World)(s x:Int):Calls Tryz.prog 111 #[.int .i64 s,.int .i64 x] w fun e w'=>e=.returned (.tuple #[.int .i64 (foV s x),.int .i64 (foE s x)])∧Below w.heap.size w w':=by
 have hbi:=rfbit9_any w s
 by_cases y0:0≤s∧s≤29
 ·have b1:fbE s=0:=if_pos y0
  have b2:fbV s=((farX s.toNat:Nat):Int):=if_pos y0
  rw[b1,b2]at hbi
  obtain⟨I,hI⟩:∃I,I=s.toNat:=⟨_,rfl⟩
  have e0:foE s x=if x<0∨((2^farX s.toNat:Nat):Int)≤x then 2 else 0:=if_pos y0
  have e9:foV s x=if foE s x=0 then((farT s.toNat:Nat):Int)+x else 0:=rfl
  rw[←hI]at hbi e0 e9
  have hin:I<30:=by omega
  have hxl:=farX_le I
  have hsub:s=(I:Int):=by omega
  clear hI;subst hsub
  have htl:farT I≤32768:=all_lt (P:=fun i=>farT i≤32768) (n:=30) (by decide+kernel) I hin
  obtain⟨tI,htI⟩:∃tI,tI=farT I:=⟨_,rfl⟩
  obtain⟨xI,hxI⟩:∃xI,xI=farX I:=⟨_,rfl⟩
  obtain⟨EE,hEE⟩:∃EE,EE=foE (I:Int) x:=⟨_,rfl⟩
  obtain⟨VV,hVV⟩:∃VV,VV=foV (I:Int) x:=⟨_,rfl⟩
  rw[←hxI]at hbi e0 hxl
  rw[←htI]at e9 htl
  rw[←hEE]at e0 e9⊢
  rw[←hVV]at e9⊢
  have hpw:=rpower9_any
  obtain⟨p,hp⟩:∃p,p=p2N xI:=⟨_,rfl⟩
  have hp2:((2^xI:Nat):Int)=(p:Int):=by rw[hp];rfl
  have hpl:p≤1048576:=by rw[hp];exact p2N_le (by omega)
  rw[hp2]at e0
  have HBI:=Lib.hid hbi;have HTI:=Lib.hid htI;have HP:=Lib.hid hp;have E0:=Lib.hid e0;have E9:=Lib.hid e9;have HLO:=Lib.hid (fun w=>rfars_any w)
  have HPW:Hid (∀w,Calls Tryz.prog 155 #[.int .i64 (xI:Int)] w fun e w'=>e=.returned (.int .i64 (p:Int))∧w=w'):=Lib.hid fun w=>by rw[hp];exact rpower9_any w xI (by omega)
  have hz:=(zero_of_info inforfars).1
  clear hbi hxI htI hEE hVV hp hp2 e0 e9 hpw b1 b2
  try clear hI
  by_cases x0:x<0
  ·have d0:decide (x<0)=true:=decY x0
   obtain rfl:EE=2:=by rw[E0.out,if_pos (.inl x0)]
   obtain rfl:VV=0:=by rw[E9.out,if_neg (by omega)]
   clear E0 E9
   go_enter Tryz.func111,Tryz.ntmps111
   go_wp2_with fail
   refine HBI.out.mono ?_
   rintro e w1 ⟨rfl,hb1⟩
   go_wp2
   go_ret2
   exact⟨rfl,hb1⟩
  have d0:decide (x<0)=false:=decN x0
  by_cases x1:(p:Int)≤x
  ·have d1:decide ((p:Int)≤x)=true:=decY x1
   obtain rfl:EE=2:=by rw[E0.out,if_pos (.inr x1)]
   obtain rfl:VV=0:=by rw[E9.out,if_neg (by omega)]
   clear E0 E9
   go_enter Tryz.func111,Tryz.ntmps111
   go_wp2_with fail
   refine HBI.out.mono ?_
   rintro e w1 ⟨rfl,hb1⟩
   go_wp2_with (go_at_call 155;refine(HPW.out _).mono ?_;rintro e w' ⟨rfl,rfl⟩)
   go_ret2
   exact⟨rfl,hb1⟩
  have d1:decide ((p:Int)≤x)=false:=decN x1
  have e2:=E0.out
  rw[if_neg (by omega)]at e2
  have E2:=Lib.hid e2
  clear e2 E0
  obtain rfl:EE=0:=E2.out
  obtain rfl:VV=(tI:Int)+x:=by rw[E9.out,if_pos rfl]
  clear E2 E9
  obtain⟨y,rfl⟩:=Int.eq_ofNat_of_zero_le (show 0≤x by omega)
  have hyb:y≤1048576:=by omega
  go_enter Tryz.func111,Tryz.ntmps111
  go_wp2_with fail
  refine HBI.out.mono ?_
  rintro e w0 ⟨rfl,hb0⟩
  have HB0:=Lib.hid hb0
  clear hb0
  go_wp2_with (go_at_call 155;refine(HPW.out _).mono ?_;rintro e w' ⟨rfl,rfl⟩)
  refine(HLO.out w0).mono ?_
  rintro e w1 ⟨rfl,hb1⟩
  obtain⟨t1,t2,t3,t4,t5⟩:=two_rows w1 (tblA (fun _=>0) 30) (tblA (fun i=>(farT i:Int)) 30) (tblA (fun i=>(farX i:Int)) 30) 151
  obtain⟨V,hV⟩:∃V,V=twoV w1 (tblA (fun _=>0) 30) (tblA (fun i=>(farT i:Int)) 30) (tblA (fun i=>(farX i:Int)) 30) 151:=⟨_,rfl⟩
  rw[←hV]at t3 t4 t5
  have TA:=Lib.hid t1;have TB:=Lib.hid t2;have TC:=Lib.hid t3;have TD:=Lib.hid t4;have HBV:=Lib.hid (HB0.out.trans ((hb1.trans (t5.mono hb1.size)).mono HB0.out.size));have HV:=Lib.hid hV
  obtain⟨b,hb⟩:∃b,b=w1.heap.size:=⟨_,rfl⟩
  have HB:=Lib.hid hb
  clear t1 t2 t3 t4 t5 hb1 hV hb
  have c4:V.cell? ⟨w1.heap.size,I,none⟩=some (.int .i64 (tI:Int)):=by rw[HTI.out];exact tbl_cell TC.out hin
  have ha1:(I:Int)<30:=by omega
  have ha0:¬(I:Int)<0:=by omega
  have ha2:¬(30:Int)≤(I:Int):=by omega
  go_wp2_with (first
   |(refine wpList_store_rowTo rfl _ _ _ rfl rfl w1.heap.size (tblA (fun i=>(farT i:Int)) 30) rfl rfl 151 (tblA (fun _=>0) 30) TA.out (szA30 _) (by rw[tblA_size,tblA_size]) (tblA_one _ _) ?_)
   |(refine wpList_store_rowTo rfl _ _ _ rfl rfl (w1.heap.size+1) (tblA (fun i=>(farX i:Int)) 30) rfl rfl 151 (tblA (fun _=>0) 30) TB.out (szA30 _) (by rw[tblA_size,tblA_size]) (tblA_one _ _) ?_;change wpList _ _ _ _ _ (twoV w1 (tblA (fun _=>0) 30) (tblA (fun i=>(farT i:Int)) 30) (tblA (fun i=>(farX i:Int)) 30) 151);rw[←HV.out]))
  go_ret2
  exact⟨rfl,HBV.out⟩
 ·have b1:fbE s=90:=if_neg y0
  have b2:fbV s=0:=if_neg y0
  have e1:foE s x=90:=if_neg y0
  have e2:foV s x=0:=if_neg (by rw[e1];omega)
  rw[b1,b2]at hbi
  rw[e1,e2]
  have HBI:=Lib.hid hbi
  clear hbi b1 b2 e1 e2
  go_enter Tryz.func111,Tryz.ntmps111
  go_wp2_with fail
  refine HBI.out.mono ?_
  rintro e w1 ⟨rfl,hb1⟩
  go_wp2
  go_ret2
  exact⟨rfl,hb1⟩
end Go.Proofs.YtgokdgcmkcmjeaaGreat
namespace Go.Proofs.YtgokdgcmkcmjeaaGreat
open Go.RowKit
theorem make_lit(n:Nat)(h:n≤1000)(z:Int)(hz:z=(n:Int)):∀u:World,(Instr.makeSlice 22 (.int .i64 z) (.int .i64 z)).run Tryz.prog u=
  .ok (.slice (some ⟨u.heap.size,0,none⟩) n n) (u.alloc (.cells (madeCells #[.int .u8 0] n) 5)):=by subst hz;exact make_u8 n h
theorem rfars11_any(w:World):Calls Tryz.prog 60 #[] w fun e w'=>e=.returned (.slice (some ⟨w.heap.size,0,none⟩) 32 32)∧RowW w' w.heap.size 32 fixB∧Below w.heap.size w w':=by
 have hmk:=make_lit 32 (by omega) 32 rfl
 have hrow:=rowW_made w 32
 have hb:Below w.heap.size w (w.alloc (.cells (madeCells #[.int .u8 0] 32) 5)):=(Below.refl _ _).alloc (Nat.le_refl _) _
 have HR:=Lib.hid hrow;have HB:=Lib.hid hb
 clear hrow hb
 go_enter Tryz.func60,Tryz.ntmps60
 go_wp2
 go_loopw [2] (fun iv wr=>∃(i:Nat) (f:Nat→Nat),i≤32∧iv=.int .i64 (i:Int)∧Hid (∀j,j<i→f j=fixB j)∧Hid (RowW wr w.heap.size 32 f)∧Hid (Below w.heap.size w wr)) (fun iv _=>32-(intOf iv).toNat)
 case atStart=>exact⟨0,_,Nat.zero_le _,rfl,Lib.hid (fun j hj=>absurd hj (by omega)),HR,HB⟩
 case round=>
  obtain⟨i,f,hi,rfl,HF,HRR,HBB⟩:=hrel
  by_cases hlt:i<32
  ·have r1:=HRR.out.cell hlt
   have r2:=HRR.out.frozen i
   obtain⟨x,hx⟩:∃x,x=f i:=⟨_,rfl⟩
   rw[←hx]at r1
   clear hx
   go_wp2
   go_roundw
   case rel=>
    refine⟨i+1,upd f i 5,by omega,by go_num,Lib.hid fun j hj=>?_,Lib.hid (HRR.out.set i 5),Lib.hid (HBB.out.setCell (Nat.le_refl _) _)⟩
    unfold upd
    by_cases e:j=i
    ·rw[if_pos e];rfl
    ·rw[if_neg e];exact HF.out j (by omega)
   case measure=>simp[intOf];omega
  ·obtain rfl:i=32:=by omega
   go_wp2
   go_ret
   exact⟨rfl,HRR.out.ext fun j hj=>HF.out j hj,HBB.out⟩
theorem rlongs11_any(w:World):Calls Tryz.prog 59 #[] w fun e w'=>e=.returned (.slice (some ⟨w.heap.size,0,none⟩) 288 288)∧RowW w' w.heap.size 288 fixA∧Below w.heap.size w w':=by
 have hmk:=make_lit 288 (by omega) 288 rfl
 have hrow:=rowW_made w 288
 have hb:Below w.heap.size w (w.alloc (.cells (madeCells #[.int .u8 0] 288) 5)):=(Below.refl _ _).alloc (Nat.le_refl _) _
 have HR:=Lib.hid hrow;have HB:=Lib.hid hb
 clear hrow hb
 go_enter Tryz.func59,Tryz.ntmps59
 go_wp2
 go_loopw [2] (fun iv wr=>∃(i:Nat) (f:Nat→Nat),i≤288∧iv=.int .i64 (i:Int)∧Hid (∀j,j<i→f j=fixA j)∧Hid (RowW wr w.heap.size 288 f)∧Hid (Below w.heap.size w wr)) (fun iv _=>288-(intOf iv).toNat)
 case atStart=>exact⟨0,_,Nat.zero_le _,rfl,Lib.hid (fun j hj=>absurd hj (by omega)),HR,HB⟩
 case round=>
  obtain⟨i,f,hi,rfl,HF,HRR,HBB⟩:=hrel
  by_cases hlt:i<288
  ·have r1:=HRR.out.cell hlt
   have r2:=HRR.out.frozen i
   obtain⟨x,hx⟩:∃x,x=f i:=⟨_,rfl⟩
   rw[←hx]at r1
   clear hx
   have s1:=HRR.out.set i 8
   have r3:=s1.cell hlt
   have r4:=s1.frozen i
   have e8:upd f i 8 i=8:=if_pos rfl
   rw[e8]at r3
   have S1:=Lib.hid s1
   have B1:=Lib.hid (HBB.out.setCell (p:=⟨w.heap.size,i,none⟩) (Nat.le_refl _) (.int .u8 ((8:Nat):Int)))
   clear s1 e8
   by_cases h7:256≤i∧i≤279
   ·have d1:decide ((144:Int)≤(i:Int))=true:=decY (by omega)
    have d2:decide ((i:Int)≤255)=false:=decN (by omega)
    have d3:decide ((256:Int)≤(i:Int))=true:=decY (by omega)
    have d4:decide ((i:Int)≤279)=true:=decY (by omega)
    have hv:fixA i=7:=if_pos h7
    have HV:=Lib.hid hv
    clear hv
    go_wp2
    go_roundw
    case rel=>
     refine⟨i+1,upd (upd f i 8) i 7,by omega,by go_num,Lib.hid fun j hj=>?_,Lib.hid (S1.out.set i 7),Lib.hid (B1.out.setCell (Nat.le_refl _) _)⟩
     unfold upd
     by_cases e:j=i
     ·rw[if_pos e,e];exact HV.out.symm
     ·rw[if_neg e,if_neg e];exact HF.out j (by omega)
    case measure=>simp[intOf];omega
   ·by_cases h9:144≤i∧i≤255
    ·have d1:decide ((144:Int)≤(i:Int))=true:=decY (by omega)
     have d2:decide ((i:Int)≤255)=true:=decY (by omega)
     have d3:decide ((256:Int)≤(i:Int))=false:=decN (by omega)
     have hv:fixA i=9:=by unfold fixA;rw[if_neg h7,if_pos h9]
     have HV:=Lib.hid hv
     clear hv
     go_wp2
     go_roundw
     case rel=>
      refine⟨i+1,upd (upd f i 8) i 9,by omega,by go_num,Lib.hid fun j hj=>?_,Lib.hid (S1.out.set i 9),Lib.hid (B1.out.setCell (Nat.le_refl _) _)⟩
      unfold upd
      by_cases e:j=i
      ·rw[if_pos e,e];exact HV.out.symm
      ·rw[if_neg e,if_neg e];exact HF.out j (by omega)
     case measure=>simp[intOf];omega
    ·have hv:fixA i=8:=by unfold fixA;rw[if_neg h7,if_neg h9]
     have HV:=Lib.hid hv
     clear hv
     have hrel:∃(i2:Nat) (f2:Nat→Nat),i2≤288∧Value.int .i64 ((i:Int)+1)=.int .i64 (i2:Int)∧Hid (∀j,j<i2→f2 j=fixA j)∧Hid (RowW (wr.setCell ⟨w.heap.size,i,none⟩ (.int .u8 ((8:Nat):Int))) w.heap.size 288 f2)∧Hid (Below w.heap.size w (wr.setCell ⟨w.heap.size,i,none⟩ (.int .u8 ((8:Nat):Int)))):=by
      refine⟨i+1,upd f i 8,by omega,by go_num,Lib.hid fun j hj=>?_,S1,B1⟩
      unfold upd
      by_cases e:j=i
      ·rw[if_pos e,e];exact HV.out.symm
      ·rw[if_neg e];exact HF.out j (by omega)
     have HREL:=Lib.hid hrel
     clear hrel HF HRR HBB S1 B1 HV
     by_cases h4:i<144
     ·have d1:decide ((144:Int)≤(i:Int))=false:=decN (by omega)
      have d3:decide ((256:Int)≤(i:Int))=false:=decN (by omega)
      go_wp2
      go_roundw
      case rel=>exact HREL.out
      case measure=>simp[intOf];omega
     ·have d1:decide ((144:Int)≤(i:Int))=true:=decY (by omega)
      have d2:decide ((i:Int)≤255)=false:=decN (by omega)
      have d3:decide ((256:Int)≤(i:Int))=true:=decY (by omega)
      have d4:decide ((i:Int)≤279)=false:=decN (by omega)
      go_wp2
      go_roundw
      case rel=>exact HREL.out
      case measure=>simp[intOf];omega
  ·obtain rfl:i=288:=by omega
   go_wp2
   go_ret
   exact⟨rfl,HRR.out.ext fun j hj=>HF.out j hj,HBB.out⟩
theorem infoOrd:(Tryz.prog.info? 213).map (fun i=>(i.zero,i.size))=some (some (.agg (tblA (fun _=>0) 19)),19):=by kernel_rfl
theorem szO19(T:Nat→Int):(Tryz.prog.info? 213).map (·.size)=some (tblA T 19).size:=by rw[tblA_size];kernel_rfl
theorem flatOrd:(([16,17,18,0,8,7,9,6,10,5,11,4,12,3,13,2,14,1,15]:List Int).map (Value.int .i64)).toArray=tblA (fun i=>(ordN i:Int)) 19:=by kernel_rfl
theorem rorder11_any(w:World):Calls Tryz.prog 143 #[] w fun e w'=>e=.returned (.agg (tblA (fun i=>(ordN i:Int)) 19))∧Below w.heap.size w w':=by
 have hz:=(zero_of_info infoOrd).1
 have f1:=flatOrd
 obtain⟨T,hT⟩:∃T:Nat→Int,T=fun i=>(ordN i:Int):=⟨_,rfl⟩
 obtain⟨Z,hZ⟩:∃Z:Nat→Int,Z=fun _=>0:=⟨_,rfl⟩
 rw[←hT]at f1⊢
 rw[←hZ]at hz
 have F1:=Lib.hid f1
 have K0:Hid ((w.alloc (.cells (tblA Z 19) 213)).heap[w.heap.size]?=some (.cells (tblA Z 19) 213 (0,0))):=Lib.hid (heap_alloc_new w _)
 clear hT hZ f1
 go_enter Tryz.func143,Tryz.ntmps143
 go_wp2_with (first
  |(refine wpList_buildFlatArrTo rfl 213 3 19 _ rfl .i64 [16,17,18,0,8,7,9,6,10,5,11,4,12,3,13,2,14,1,15] (some 1) rfl Tryz.underlying213 (by kernel_rfl) (by kernel_rfl) rfl ?_;rw[F1.out])
  |(refine wpList_store_rowTo rfl _ _ _ rfl rfl w.heap.size (tblA T 19) rfl rfl 213 (tblA Z 19) K0.out (szO19 _) (by rw[tblA_size,tblA_size]) (tblA_one _ _) ?_)
  |fail)
 refine bodyPost_ret (v:=.agg (tblA T 19)) ?_ rfl ⟨rfl,below_row9 ((Below.refl _ _).alloc (Nat.le_refl _) _) (Nat.le_refl _) _⟩
 exact results_cell_row rfl _ _ w.heap.size _ _ (0,0) _ rfl (setRow_heap _ _ _ _ _ _ K0.out) Tryz.underlying213 rfl (szO19 _)
end Go.Proofs.YtgokdgcmkcmjeaaGreat
namespace Go.Proofs.YtgokdgcmkcmjeaaGreat
open Go.RowKit
def lowB(l:List Oper)(n:Nat):Bool:=(List.range n).all fun i=>match l[i]? with
 |some o=>o.guard.isNone&&o.after.all fun e=> !Region.binds .any e||decide (e.on<i)
 |none=>false
def doneA(n g:Nat):Array Bool:=(List.replicate n true++List.replicate g false).toArray
def sinkF(l:List Oper)(m n:Nat):Bool:=(List.range n).all fun i=>decide (i<m)||(List.range (n+1)).any fun j=>decide (i<j)&&Region.waitsFor .any l.toArray j i
def splitB(l:List Oper)(m n:Nat):Bool:=Region.noSelect l.toArray&&Region.noSelect (l.take n).toArray&&Region.lexFrom .any (l.take n).toArray (n-m) m (doneA m (n-m))&&decide (n<l.length)&&sinkF l m n&&Region.chainB .any l.toArray n&&lowB l n&&Region.seqB .any l.toArray (l.length-n) n (doneA n (l.length-n))
theorem tail_late{l:List Oper}{m n:Nat}{listed:Array Bool}(hs:sinkF l m n=true)(hc:Region.chainB .any l.toArray n=true)(hn:n<l.length)(inv:HeadInv .any l.toArray n listed)(hm:∀i,i<m→listed.getD i false=true){i:Nat}(hi:i<n)(hu:listed.getD i true=false):
  ∀t,n≤t→t∉Region.ready .any l.toArray listed:=by
 have hsz:listed.size=l.length:=by rw[inv.size];simp
 have key:∀(d i:Nat),d=n-i→i≤n→listed.getD i true=false→n∈Region.ready .any l.toArray listed→i=n:=by
  intro d
  induction d using Nat.strongRecOn with
  |_ d ih=>
   intro i hd hi hu hr
   rcases Nat.eq_or_lt_of_le hi with e|hi
   ·exact e
   ·exfalso
    have hmi:¬i<m:=fun h=>by have:=hm i h;rw[getD_both hu]at this;cases this
    have h1:=List.all_eq_true.1 hs i (List.mem_range.2 hi)
    simp only[Bool.or_eq_true,decide_eq_true_eq]at h1
    rcases h1 with h1|h1
    ·exact hmi h1
    ·obtain⟨j,hj,hj2⟩:=List.any_eq_true.1 h1
     simp only[Bool.and_eq_true,decide_eq_true_eq]at hj2
     obtain⟨oj,hoj,e,he,hb,hon⟩:=Region.waitsFor_spec hj2.2
     have hjn:j≤n:=by have:=List.mem_range.1 hj;omega
     cases hl:listed.getD j false with
     |true=>
      have h2:=inv.closed j oj hoj hl e he hb
      rw[hon,getD_both hu]at h2;cases h2
     |false=>
      have hjt:=ih (n-j) (by omega) j rfl hjn (getD_in (by omega) hl) hr
      subst hjt
      obtain⟨_,ot,hot,hall⟩:=mem_ready.1 hr
      rw[hoj]at hot;cases hot
      have h2:=hall e he hb
      rw[hon,getD_both hu]at h2;cases h2
 intro t ht hr
 by_cases htn:t=n
 ·subst htn
  have:=key (t-i) i rfl (by omega) hu hr
  omega
 ·obtain⟨_,ot,hot,hall⟩:=mem_ready.1 hr
  have htl:t<l.length:=by have:=(Array.getElem?_eq_some_iff.1 hot).1;simpa using this
  have h1:=List.all_eq_true.1 hc t (List.mem_range.2 (by simpa using htl))
  simp only[Bool.or_eq_true,decide_eq_true_eq]at h1
  rcases h1 with h1|h1
  ·omega
  ·obtain⟨o',ho',e,he,hb,hon⟩:=Region.waitsFor_spec h1
   rw[hot]at ho';cases ho'
   have h2:=hall e he hb
   rw[hon,getD_both (inv.tail (t-1) (by omega) (by simp;omega))]at h2;cases h2
theorem lowB_spec{l:List Oper}{n i:Nat}(h:lowB l n=true)(hi:i<n):∃o,l[i]?=some o∧o.guard=none∧∀e∈o.after,Region.binds .any e=true→e.on<i:=by
 have h1:=List.all_eq_true.1 h i (List.mem_range.2 hi)
 split at h1
 ·rename_i o ho
  simp only[Bool.and_eq_true]at h1
  refine⟨o,ho,by simpa using h1.1,fun e he hb=>?_⟩
  have h2:=Array.all_eq_true_iff_forall_mem.1 h1.2 e he
  simp only[hb,Bool.not_true,Bool.false_or,decide_eq_true_eq]at h2
  exact h2
 ·cases h1
theorem wanted_free{o:Oper}(h:o.guard=none)(y:Nat→Option Bool):Region.wanted o y=true:=by simp[Region.wanted,h]
theorem split_done{n g:Nat}{listed:Array Bool}(hsz:listed.size=n+g)(h1:∀i,i<n→listed.getD i true=true)(h2:∀t,n≤t→t<n+g→listed.getD t true=false):listed=doneA n g:=by
 apply Array.ext_getElem?
 intro i
 unfold doneA
 rcases Nat.lt_or_ge i n with h|h
 ·have:=h1 i h
  have hs:i<listed.size:=by omega
  have e:listed[i]?=some true:=by
   rw[Array.getElem?_eq_getElem hs]
   simp[hs]at this
   rw[this]
  rw[e,List.getElem?_toArray,List.getElem?_append_left (by simpa using h),List.getElem?_replicate,if_pos h]
 ·rcases Nat.lt_or_ge i (n+g)with h'|h'
  ·have:=h2 i h h'
   have hs:i<listed.size:=by omega
   have e:listed[i]?=some false:=by
    rw[Array.getElem?_eq_getElem hs]
    simp[hs]at this
    rw[this]
   rw[e,List.getElem?_toArray,List.getElem?_append_right (by simpa using h),List.length_replicate,List.getElem?_replicate,if_pos (by omega)]
  ·rw[Array.getElem?_eq_none (by omega),List.getElem?_toArray,List.getElem?_eq_none (by simp;omega)]
theorem split_any{P:Program}{C:World→Prop}{Q:Exit→Act→World→Prop}{l:List Oper}{m n:Nat}(hn:n<l.length)(hs:sinkF l m n=true)(hc:Region.chainB .any l.toArray n=true)(hlow:lowB l n=true)
  (hseq:Region.seqB .any l.toArray (l.length-n) n (doneA n (l.length-n))=true):
  ∀(f:Nat) (s:List Nat) (listed lh:Array Bool) (a:Act) (w:World),s.length=f→s.Nodup→(∀i,i∈s↔i<n∧listed.getD i true=false)→HeadInv .any l.toArray n listed→(∀i,i<m→listed.getD i false=true)→(∀i,i<n→lh.getD i true=listed.getD i true∧lh.getD i false=listed.getD i false)→C w→
   wpAnyQ P .any (l.take n).toArray C (fun a'=>∀w',C w'→wpList P l.toArray Q (l.drop n) a' w') f lh a→wpAny P .any l.toArray Q (f+(l.length-n)) listed a w
 |0,s,listed,lh,a,w,hf,_,hmem,inv,_,_,hw,h=>by
  have hs0:s=[]:=List.length_eq_zero_iff.1 hf
  subst hs0
  have h1:∀i,i<n→listed.getD i true=true:=fun i hi=>by
   cases e:listed.getD i true with
   |true=>rfl
   |false=>exact absurd ((hmem i).2 ⟨hi,e⟩) (by simp)
  have hsz:=inv.size
  have he:=split_done (n:=n) (g:=l.length-n) (listed:=listed) (by rw[hsz];simp;omega) h1 (fun t ht ht2=>inv.tail t ht (by simp;omega))
  subst he
  have h3:=wpAny_of_seq (P:=P) (md:=.any) (Q':=Q) (l.drop n) n (doneA n (l.length-n)) a w (fun j=>by simp[List.getElem?_drop]) (by rw[List.length_drop];exact hseq) (h.2 w hw)
  rw[List.length_drop]at h3
  rw[Nat.zero_add];exact h3
 |f+1,s,listed,lh,a,w,hf,hnd,hmem,inv,hmm,hlh,hw,h=>by
  rw[show f+1+(l.length-n)=(f+(l.length-n))+1 by omega]
  obtain⟨x,hx⟩:∃x,x∈s:=List.exists_mem_of_length_pos (by omega)
  obtain⟨hxn,hxu⟩:=(hmem x).1 hx
  have hready:∀i,i∈Region.ready .any l.toArray listed→i<n:=fun i hi=>by
   rcases Nat.lt_or_ge i n with g|g
   ·exact g
   ·exact absurd hi (tail_late hs hc hn inv hmm hxn hxu i g)
  have hhead:∀i,i<n→(i∈Region.ready .any l.toArray listed↔i∈Region.ready .any (l.take n).toArray lh):=fun i hi=>by
   obtain⟨o,ho,hg,hlo⟩:=lowB_spec hlow hi
   rw[mem_ready,mem_ready]
   have e1:l.toArray[i]?=some o:=by simpa using ho
   have e2:(l.take n).toArray[i]?=some o:=by simp[hi,ho]
   rw[e1,e2,(hlh i hi).1]
   constructor
   ·rintro⟨h0,o',ho',hall⟩
    cases ho'
    exact⟨h0,o,rfl,fun e he hb=>by rw[(hlh e.on (by have:=hlo e he hb;omega)).2];exact hall e he hb⟩
   ·rintro⟨h0,o',ho',hall⟩
    cases ho'
    exact⟨h0,o,rfl,fun e he hb=>by have:=hall e he hb;rwa[(hlh e.on (by have:=hlo e he hb;omega)).2]at this⟩
  refine⟨fun h0=>?_,fun i hi=>?_⟩
  ·exfalso
   have hleast:∀(d y:Nat),y=d→y<n→listed.getD y true=false→∃z,z∈Region.ready .any l.toArray listed:=by
    intro d
    induction d using Nat.strongRecOn with
    |_ d ih=>
     intro y hy hyn hyu
     obtain⟨o,ho,_,hlo⟩:=lowB_spec hlow hyn
     by_cases hall:∀e∈o.after,Region.binds .any e=true→listed.getD e.on false=true
     ·exact⟨y,mem_ready.2 ⟨hyu,o,by simpa using ho,hall⟩⟩
     ·have hex:∃e,e∈o.after∧Region.binds .any e=true∧listed.getD e.on false≠true:=by
       apply Classical.byContradiction
       intro hno
       exact hall fun e he hb=>Classical.byContradiction fun hne=>hno ⟨e,he,hb,hne⟩
      obtain⟨e,he,hb,hne⟩:=hex
      have hlt:=hlo e he hb
      have hsz:=inv.size
      refine ih e.on (by omega) e.on rfl (by omega) (getD_in (by rw[hsz];simp;omega) (by simpa using hne))
   obtain⟨z,hz⟩:=hleast x x rfl hxn hxu
   rw[h0]at hz;cases hz
  ·have hin:=hready i hi
   have h1:=h.2 i ((hhead i hin).1 hi)
   obtain⟨o,ho,hg,_⟩:=lowB_spec hlow hin
   have e1:l.toArray[i]?=some o:=by simpa using ho
   have e2:(l.take n).toArray[i]?=some o:=by simp[hin,ho]
   have hiu:=(mem_ready.1 hi).1
   have his:i∈s:=(hmem i).2 ⟨hin,hiu⟩
   unfold wpOp
   simp only[e1]
   rw[if_pos (wanted_free hg _)]
   unfold qOp at h1
   simp only[e2]at h1
   rw[if_pos (wanted_free hg _)]at h1
   refine .inl (Oper.wp_of_quiet hw (fun a' w' hw' hk=>?_) h1)
   refine split_any hn hs hc hlow hseq f (s.erase i) (listed.setIfInBounds i true) (lh.setIfInBounds i true) a' w' (by rw[List.length_erase_of_mem his];omega) (hnd.erase i) (fun j=>?_) (inv.set hi hin) (fun j hj=>getD_set_true (hmm j hj)) (fun j hj=>?_) hw' hk
   ·rw[hnd.mem_erase_iff]
    by_cases hji:j=i
    ·subst hji
     have hsz:=inv.size
     have hlt:j<listed.size:=by rw[hsz];simp;omega
     constructor
     ·intro hh;exact absurd rfl hh.1
     ·rintro⟨_,hh⟩;simp[hlt]at hh
    ·rw[getD_set_ne true (Ne.symm hji),hmem j]
     constructor
     ·intro hh;exact hh.2
     ·intro hh;exact⟨hji,hh⟩
   ·by_cases hji:j=i
    ·subst hji
     have hsz:=inv.size
     have hlt:j<listed.size:=by rw[hsz];simp;omega
     have hlt2:j<lh.size:=by
      rcases Nat.lt_or_ge j lh.size with g|g
      ·exact g
      ·have:=(hlh j hj).1
       rw[hiu]at this
       simp[Array.getElem?_eq_none g]at this
     simp[hlt,hlt2]
    ·rw[getD_set_ne true (Ne.symm hji),getD_set_ne true (Ne.symm hji),getD_set_ne false (Ne.symm hji),getD_set_ne false (Ne.symm hji)]
     exact hlh j hj
theorem doneA_get(n g i:Nat)(d:Bool):(doneA n g).getD i d=if i<n then true else if i<n+g then false else d:=by
 unfold doneA
 rcases Nat.lt_or_ge i n with h|h
 ·rw[if_pos h]
  have e:(List.replicate n true++List.replicate g false).toArray[i]?=some true:=by
   rw[List.getElem?_toArray,List.getElem?_append_left (by simpa using h),List.getElem?_replicate,if_pos h]
  rw[Array.getD_eq_getD_getElem?,e];rfl
 ·rw[if_neg (by omega)]
  rcases Nat.lt_or_ge i (n+g)with h'|h'
  ·rw[if_pos h']
   have e:(List.replicate n true++List.replicate g false).toArray[i]?=some false:=by
    rw[List.getElem?_toArray,List.getElem?_append_right (by simpa using h),List.length_replicate,List.getElem?_replicate,if_pos (by omega)]
   rw[Array.getD_eq_getD_getElem?,e];rfl
  ·rw[if_neg (by omega)]
   have e:(List.replicate n true++List.replicate g false).toArray[i]?=none:=by
    rw[List.getElem?_toArray,List.getElem?_eq_none (by simp;omega)]
   rw[Array.getD_eq_getD_getElem?,e];rfl
theorem split_from{P:Program}{C:World→Prop}{Q:Exit→Act→World→Prop}{l:List Oper}{m n:Nat}(hB:splitB l m n=true)(hmn:m≤n)(hlow0:∀j oj,l[j]?=some oj→j<m→∀e∈oj.after,Region.binds .any e=true→e.on<m){a:Act}{w:World}(hC:C w)
  (h:wpQuiet P (l.take n).toArray C (fun a'=>∀w',C w'→wpList P l.toArray Q (l.drop n) a' w') ((l.take n).drop m) a):wpAny P .any l.toArray Q (l.length-m) (doneA m (l.length-m)) a w:=by
 simp only[splitB,Bool.and_eq_true,decide_eq_true_eq]at hB
 obtain⟨⟨⟨⟨⟨⟨⟨_,hsel⟩,hlex⟩,hn⟩,hs⟩,hc⟩,hlow⟩,hseq⟩:=hB
 have htl:((l.take n).drop m).length=n-m:=by simp;omega
 have hq:=wpAnyQ_lex (C:=C) (md:=.any) hsel ((l.take n).drop m) m (doneA m (n-m)) a (by simp) (by rw[htl];exact hlex) h
 rw[htl]at hq
 have hinv:HeadInv .any l.toArray n (doneA m (l.length-m)):=by
  refine⟨by simp[doneA];omega,fun j oj hj hl e he hb=>?_,fun t ht ht2=>?_⟩
  ·rw[doneA_get]at hl
   have hjm:j<m:=by
    rcases Nat.lt_or_ge j m with g|g
    ·exact g
    ·rw[if_neg (by omega)]at hl;split at hl<;>cases hl
   rw[doneA_get,if_pos (hlow0 j oj (by simpa using hj) hjm e he hb)]
  ·rw[doneA_get,if_neg (by omega),if_pos (by simp at ht2;omega)]
 have:=split_any (Q:=Q) (m:=m) hn hs hc hlow hseq (n-m) ((List.range n).drop m) (doneA m (l.length-m)) (doneA m (n-m)) a w (by simp) (List.nodup_range.sublist (List.drop_sublist _ _)) (fun i=>by
   rw[doneA_get]
   constructor
   ·intro hi
    obtain⟨k,hk,hk2⟩:=List.mem_iff_getElem.1 hi
    simp at hk hk2
    rw[if_neg (by omega),if_pos (by omega)]
    exact⟨by omega,rfl⟩
   ·rintro⟨hi,hu⟩
    have hmi:m≤i:=by
     rcases Nat.lt_or_ge i m with g|g
     ·rw[if_pos g]at hu;cases hu
     ·exact g
    exact List.mem_iff_getElem.2 ⟨i-m,by simp;omega,by simp;omega⟩) hinv (fun i hi=>by rw[doneA_get,if_pos hi]) (fun i hi=>by
   simp only[doneA_get]
   constructor
   ·by_cases g:i<m
    ·rw[if_pos g,if_pos g]
    ·rw[if_neg g,if_neg g,if_pos (by omega),if_pos (by omega)]
   ·by_cases g:i<m
    ·rw[if_pos g,if_pos g]
    ·rw[if_neg g,if_neg g,if_pos (by omega),if_pos (by omega)]) hC hq
 rw[show n-m+(l.length-n)=l.length-m by omega]at this
 exact this
theorem wp_region_split1{P:Program}{id:Nat}{Q:Exit→Act→World→Prop}{a:Act}{w:World}{o:Oper}{l:List Oper}(n:Nat)(C:World→Prop)(hm:P.follows .mixedOrders=true)(hB:splitB (o::l) 1 (n+1)=true)(hC:C w.drew)
  (x:Operand) (ho:o.op=.move x) (hg:o.guard=none) (ha:o.after=#[]) (hf:Region.free .any (o::l).toArray (Array.replicate (l.length+1) false) 0=true) (hQ:∀c a' w',Q (.panic c) (a'.put o.dst (a.eval x)) w'→Q (.panic c) a' w')
  (h:wpQuiet P ((o::l).take (n+1)).toArray C (fun a'=>∀w',C w'→wpList P (o::l).toArray Q (l.drop n) a' w') (l.take n) (a.put o.dst (a.eval x))):(Code.region id (o::l).toArray true).wp P Q a w:=by
 refine wp_region_any hm ?_
 have hB':=hB
 simp only[splitB,Bool.and_eq_true,decide_eq_true_eq]at hB'
 obtain⟨⟨⟨⟨⟨⟨⟨hsel,_⟩,_⟩,_⟩,_⟩,_⟩,_⟩,_⟩:=hB'
 have h1:=split_from (Q:=Q) (a:=a.put o.dst (a.eval x)) (w:=w.drew) hB (by omega) (fun j oj hj hj1 e he hb=>by
  obtain rfl:j=0:=by omega
  have:oj=o:=by simpa using hj.symm
  rw[this,ha]at he
  simp at he) hC (by simpa using h)
 have e1:(o::l).toArray.size=l.length+1:=by simp
 rw[e1]
 refine wpAny_take (i:=0) (oi:=o) (v:=a.eval x) (by simp) hsel hf ?_ hQ (.inl ⟨by simp[Region.wanted,hg],fun w'=>by simp[execOp,ho]⟩) ?_
 ·have:0∈Region.ready .any (o::l).toArray (Array.replicate (l.length+1) false):=mem_ready.2 ⟨by simp,o,by simp,fun e he=>by rw[ha]at he;simp at he⟩
  simpa using this
 ·have e2:(Array.replicate (l.length+1) false).setIfInBounds 0 true=doneA 1 ((o::l).length-1):=by
   apply Array.ext_getElem?
   intro i
   unfold doneA
   rcases i with _|i
   ·simp
   ·simp[Array.getElem?_replicate,List.getElem?_replicate]
  rw[e2]
  exact h1
theorem wp_split_after1{P:Program}{id:Nat}{Q:Exit→Act→World→Prop}{a:Act}{w:World}{o:Oper}{l:List Oper}(n m:Nat)(U:World)(hU:Below m U w)(hm:P.follows .mixedOrders=true)(hB:splitB (o::l) 1 (n+1)=true)
  (x:Operand) (v:Value) (hv:a.eval x=v) (d:Option Tmp) (hd:o.dst=d) (ho:o.op=.move x) (hg:o.guard=none) (ha:o.after=#[]) (hf:Region.free .any (o::l).toArray (Array.replicate (l.length+1) false) 0=true) (hQ:∀c a' w',Q (.panic c) (a'.put d v) w'→Q (.panic c) a' w')
  (h:wpQuiet P ((o::l).take (n+1)).toArray (fun V=>∃p:After m U,V=p.w) (fun a'=>∀V,(∃p:After m U,V=p.w)→wpList P (o::l).toArray Q (l.drop n) a' V) (l.take n) (a.put d v)):(Code.region id (o::l).toArray true).wp P Q a w:=by
 subst hv;subst hd
 exact wp_region_split1 n _ hm hB ⟨⟨_,hU.drew⟩,rfl⟩ x ho hg ha hf hQ h
end Go.Proofs.YtgokdgcmkcmjeaaGreat
namespace Go.Proofs.YtgokdgcmkcmjeaaGreat
open Go.RowKit Go.ChangeShapes Go.WideShapes Go.ChangeAt Go.Joins
def tokC(t:Tok):List Value:=[.int .u8 (t.x:Int),.int .i64 t.d,.int .i64 t.n]
theorem szTok:(Tryz.prog.info? 36).map (·.size)=some 3:=by kernel_rfl
end Go.Proofs.YtgokdgcmkcmjeaaGreat
namespace Go.Proofs.YtgokdgcmkcmjeaaGreat
open Go.RowKit
def RdC(w:World)(B:Nat)(A:Option Addr)(n:Nat)(x l:Nat→Nat):Prop:=
 ((∀j,x j<4294967296)∧∀j,l j<256)∧(0<n→∃b o,A=some ⟨b,o,none⟩∧b<B∧∀j,j<n→w.cell? ⟨b,o+j*2,none⟩=some (.int .u32 (x j:Int))∧w.cell? ⟨b,o+j*2+1,none⟩=some (.int .u8 (l j:Int)))
theorem RdC.below{w w':World}{B B' n:Nat}{A:Option Addr}{x l:Nat→Nat}(h:RdC w B A n x l)(hb:Below B' w w')(hB:B≤B'):RdC w' B A n x l:=by
 refine⟨h.1,fun hn=>?_⟩
 obtain⟨b,o,rfl,hlt,hc⟩:=h.2 hn
 refine⟨b,o,rfl,hlt,fun j hj=>?_⟩
 rw[hb.cell (p:=⟨b,o+j*2,none⟩) (by show b<B';omega),hb.cell (p:=⟨b,o+j*2+1,none⟩) (by show b<B';omega)]
 exact hc j hj
theorem RdC.more{w:World}{B B' n:Nat}{A:Option Addr}{x l:Nat→Nat}(h:RdC w B A n x l)(hB:B≤B'):RdC w B' A n x l:=by
 refine⟨h.1,fun hn=>?_⟩
 obtain⟨b,o,rfl,hlt,hc⟩:=h.2 hn
 exact⟨b,o,rfl,by omega,hc⟩
theorem RdC.at{w:World}{B n:Nat}{A:Option Addr}{x l:Nat→Nat}(h:RdC w B A n x l)(hn:0<n):∃b o,A=some ⟨b,o,none⟩∧b<B∧∀j,j<n→w.cell? ⟨b,o+j*2,none⟩=some (.int .u32 (x j:Int))∧w.cell? ⟨b,o+j*2+1,none⟩=some (.int .u8 (l j:Int)):=h.2 hn
theorem below_drawN{B:Nat}{a w:World}(h:Below B a w)(n:Nat):Below B a (w.drewN n):=⟨h.os,h.tape,h.output,h.size,h.block⟩
def RowC(w:World)(g n:Nat)(x l:Nat→Nat):Prop:=
 ∃cur:Array Value,w.heap[g]?=some (.cells cur 159 (0,0))∧∀j,j<n→cur[j*2]?=some (.int .u32 (x j:Int))∧cur[j*2+1]?=some (.int .u8 (l j:Int))
theorem RowC.lt{w:World}{g n:Nat}{x l:Nat→Nat}(h:RowC w g n x l):g<w.heap.size:=by
 obtain⟨cur,h1,_⟩:=h;exact(Array.getElem?_eq_some_iff.1 h1).1
theorem RowC.cell{w:World}{g n:Nat}{x l:Nat→Nat}(h:RowC w g n x l){j:Nat}(hj:j<n):w.cell? ⟨g,j*2,none⟩=some (.int .u32 (x j:Int))∧w.cell? ⟨g,j*2+1,none⟩=some (.int .u8 (l j:Int)):=by
 obtain⟨cur,h1,h2⟩:=h
 rw[cell_of_row w g _ _ _ (0,0) h1,cell_of_row w g _ _ _ (0,0) h1];exact h2 j hj
theorem RowC.frozen{w:World}{g n:Nat}{x l:Nat→Nat}(h:RowC w g n x l)(j:Nat):w.frozen? ⟨g,j,none⟩=false:=by
 obtain⟨cur,h1,_⟩:=h;exact frozen_of_row w g j _ _ h1
theorem RowC.ext{w:World}{g n:Nat}{x l x' l':Nat→Nat}(h:RowC w g n x l)(ex:∀j,j<n→x j=x' j)(el:∀j,j<n→l j=l' j):RowC w g n x' l':=by
 obtain⟨cur,h1,h2⟩:=h;exact⟨cur,h1,fun j hj=>by rw[←ex j hj,←el j hj];exact h2 j hj⟩
theorem RowC.set{w:World}{g n:Nat}{x l:Nat→Nat}(h:RowC w g n x l)(i a b:Nat):RowC ((w.setCell ⟨g,i*2,none⟩ (.int .u32 (a:Int))).setCell ⟨g,i*2+1,none⟩ (.int .u8 (b:Int))) g n (upd x i a) (upd l i b):=by
 obtain⟨cur,h1,h2⟩:=h
 refine⟨(cur.setIfInBounds (i*2) (.int .u32 (a:Int))).setIfInBounds (i*2+1) (.int .u8 (b:Int)),heap_setCell_same _ g _ _ _ _ (heap_setCell_same w g _ cur _ _ h1),fun j hj=>?_⟩
 have hs:j*2+1<cur.size:=by
  rcases Nat.lt_or_ge (j*2+1) cur.size with h|h
  ·exact h
  ·have:=(h2 j hj).2;rw[Array.getElem?_eq_none h]at this;cases this
 have h3:=h2 j hj
 simp only[Array.getElem?_setIfInBounds,Array.size_setIfInBounds,upd]
 by_cases e:j=i
 ·subst e
  constructor
  ·rw[if_neg (by omega),if_pos rfl,if_pos (by omega),if_pos rfl]
  ·rw[if_pos rfl,if_pos (by omega),if_pos rfl]
 ·constructor
  ·rw[if_neg (by omega),if_neg (by omega),if_neg e];exact h3.1
  ·rw[if_neg (by omega),if_neg (by omega),if_neg e];exact h3.2
theorem RowC.rd{w:World}{g n:Nat}{x l:Nat→Nat}(h:RowC w g n x l)(hx:∀j,x j<4294967296)(hl:∀j,l j<256):RdC w w.heap.size (some ⟨g,0,none⟩) n x l:=
 ⟨⟨hx,hl⟩,fun _=>⟨g,0,rfl,h.lt,fun j hj=>by rw[Nat.zero_add];exact h.cell hj⟩⟩
def zeroN(_:Nat):Nat:=0
theorem infoCode:(Tryz.prog.info? 159).map (fun i=>(i.zero,i.size,i.bytes))=some (some (.agg #[.int .u32 0,.int .u8 0]),2,8):=by kernel_rfl
theorem rowC_made(w:World)(n:Nat):RowC (w.alloc (.cells (madeCells #[.int .u32 0,.int .u8 0] (n*2)) 159)) w.heap.size n zeroN zeroN:=by
 refine⟨_,heap_alloc_new w _,fun j hj=>?_⟩
 unfold madeCells zeroN
 have e1:j*2%2=0:=by omega
 have e2:(j*2+1)%2=1:=by omega
 constructor
 ·simp[show j*2<n*2 by omega,e1]
 ·simp[show j*2+1<n*2 by omega,e2]
end Go.Proofs.YtgokdgcmkcmjeaaGreat
namespace Go.Proofs.YtgokdgcmkcmjeaaGreat
open Go.RowKit
theorem part_any(w:World)(m:Nat)(hm:m<256):
  Calls Tryz.prog 107 #[.int .u8 (m:Int)] w fun e w'=>e=.returned (.int .i64 (pt m:Nat))∧w=w':=by
 go_enter Tryz.func107,Tryz.ntmps107
 go_wp2
 go_loop [3,4] (fun p i=>∃k:Nat,k≤m∧i=.int .i64 k∧p=.int .i64 (pt k:Nat)) (fun _ i=>m-(intOf i).toNat)
 case atStart=>exact⟨0,Nat.zero_le _,rfl,rfl⟩
 case round=>
  obtain⟨k,hk,rfl,rfl⟩:=hrel
  have hp:=pt_le k
  have H:=Lib.hid (pt_half k)
  obtain⟨p,hpe⟩:∃p,p=pt k:=⟨_,rfl⟩
  rw[←hpe]at hp H⊢
  have HP:=Lib.hid hpe
  clear hpe
  by_cases hlt:k<m
  ·go_wp2
   refine⟨⟨k+1,hlt,by go_num,val_int ?_⟩,by simp[intOf];omega⟩
   rw[H.out];omega
  ·obtain rfl:k=m:=by omega
   clear hlt hk
   go_wp2
   go_ret
   exact⟨ret_int (by rw[HP.out]),rfl⟩
theorem allN_le(f:Nat→Nat):∀n,allN f n≤32768*n
 |0=>Nat.le_refl _
 |n+1=>by
  have h1:=allN_le f n
  have h2:=pt_le (f n)
  simp only[allN];split<;>omega
theorem parts_any(w:World)(B:Nat)(A:Option Addr)(n c:Nat)(f:Nat→Nat)(hr:RdB w B A n f)(hn:n≤1000000):
  Calls Tryz.prog 147 #[.slice A n c] w fun e w'=>e=.returned (.tuple #[.int .i64 (allN f n:Nat),.int .i64 (usedN f n:Nat)])∧w=w':=by
 have HR:=Lib.hid hr
 clear hr
 go_enter Tryz.func147,Tryz.ntmps147
 go_wp2
 go_loop [4,5,6] (fun a u i=>∃k:Nat,k≤n∧i=.int .i64 k∧a=.int .i64 (allN f k:Nat)∧u=.int .i64 (usedN f k:Nat)) (fun _ _ i=>n-(intOf i).toNat)
 case atStart=>exact⟨0,Nat.zero_le _,rfl,rfl,rfl⟩
 case round=>
  obtain⟨k,hk,rfl,rfl,rfl⟩:=hrel
  have ha:=allN_le f k
  have hu:=used_le f k
  have hf:=HR.out.1 k
  have hs1:allN f (k+1)=allN f k+if 0<f k then pt (f k)else 0:=rfl
  have hs2:usedN f (k+1)=usedN f k+if 0<f k then 1 else 0:=rfl
  have H1:=Lib.hid hs1;have H2:=Lib.hid hs2
  clear hs1 hs2
  obtain⟨a,hae⟩:∃p,p=allN f k:=⟨_,rfl⟩
  obtain⟨u,hue⟩:∃p,p=usedN f k:=⟨_,rfl⟩
  rw[←hae]at ha H1⊢
  rw[←hue]at hu H2⊢
  have HA:=Lib.hid hae;have HU:=Lib.hid hue
  clear hae hue
  by_cases hlt:k<n
  ·obtain⟨b,o,rfl,_,hc⟩:=HR.out.2 (by omega)
   have hcell:=hc k hlt
   clear hc
   have hp:=pt_le (f k)
   by_cases h0:0<f k
   ·go_wp2_with (go_at_call 107;refine(part_any _ (f k) hf).mono ?_;rintro e w' ⟨rfl,rfl⟩)
    refine⟨⟨k+1,hlt,by go_num,val_int ?_,val_int ?_⟩,by simp[intOf];omega⟩
    ·rw[H1.out,if_pos h0];omega
    ·rw[H2.out,if_pos h0];omega
   ·go_wp2
    refine⟨⟨k+1,hlt,by go_num,val_int ?_,val_int ?_⟩,by simp[intOf];omega⟩
    ·rw[H1.out,if_neg h0];omega
    ·rw[H2.out,if_neg h0];omega
  ·obtain rfl:k=n:=by omega
   clear hk hlt
   go_wp2
   go_ret2
   exact⟨ret_two (by rw[HA.out]) (by rw[HU.out]),rfl⟩
theorem rcheck_arg(w:World)(A:Option Addr)(n c:Nat)(most:Int)(h:most<1∨15<most):
  Calls Tryz.prog 101 #[.slice A n c,.int .i64 most] w fun e w'=>e=.returned (.int .i64 2)∧w=w':=by
 by_cases h1:most<1
 ·have hd:decide (most<1)=true:=by simpa using h1
  clear h
  go_enter Tryz.func101,Tryz.ntmps101
  go_wp2
  go_ret
  exact⟨rfl,rfl⟩
 ·have h2:15<most:=by omega
  have hd:decide (most<1)=false:=by simpa using h1
  clear h
  go_enter Tryz.func101,Tryz.ntmps101
  go_wp2
  go_ret
  exact⟨rfl,rfl⟩
theorem rcheck_many(w:World)(A:Option Addr)(n c:Nat)(most:Int)(h1:1≤most)(h2:most≤15)(h:320<n):
  Calls Tryz.prog 101 #[.slice A n c,.int .i64 most] w fun e w'=>e=.returned (.int .i64 4)∧w=w':=by
 have hd:decide (most<1)=false:=by simp;omega
 have hd2:decide (15<most)=false:=by simp;omega
 go_enter Tryz.func101,Tryz.ntmps101
 go_wp2
 go_ret
 exact⟨rfl,rfl⟩
def endB(all used:Nat):Bool:=decide (all=32768∨used=0∨(used=1∧all=16384))
theorem rcheck_rest(w:World)(B:Nat)(A:Option Addr)(n c:Nat)(f:Nat→Nat)(most:Int)(hr:RdB w B A n f)(h1:1≤most)(h2:most≤15)(h:n≤320):
  Calls Tryz.prog 101 #[.slice A n c,.int .i64 most] w fun e w'=>e=.returned (.int .i64 (if bigB f n most=true then 2 else endE (allN f n) (usedN f n)))∧w=w':=by
 have HR:=Lib.hid hr
 clear hr
 have hd:decide (most<1)=false:=by simp;omega
 have hd2:decide (15<most)=false:=by simp;omega
 have hd3:decide ((320:Int)<(n:Int))=false:=by simp;omega
 have ha:=allN_le f n
 have hu:=used_le f n
 obtain⟨a,hae⟩:∃p,p=allN f n:=⟨_,rfl⟩
 obtain⟨u,hue⟩:∃p,p=usedN f n:=⟨_,rfl⟩
 obtain⟨E,hE⟩:∃E,E=(if bigB f n most=true then 2 else endE (allN f n) (usedN f n)):=⟨_,rfl⟩
 rw[←hE]
 rw[←hae]at ha
 rw[←hue]at hu
 have HA:=Lib.hid hae;have HU:=Lib.hid hue;have HE:=Lib.hid hE
 clear hae hue hE
 go_enter Tryz.func101,Tryz.ntmps101
 go_wp2
 go_loop [5] (fun i=>∃k:Nat,k≤n∧i=.int .i64 k∧∀j,j<k→(f j:Int)≤most) (fun i=>n-(intOf i).toNat)
 case atStart=>exact⟨0,Nat.zero_le _,rfl,fun j hj=>absurd hj (by omega)⟩
 case round=>
  obtain⟨k,hk,rfl,hall⟩:=hrel
  have HALL:=Lib.hid hall
  clear hall
  have hf:=HR.out.1 k
  by_cases hlt:k<n
  ·obtain⟨b,o,rfl,_,hc⟩:=HR.out.2 (by omega)
   have hcell:=hc k hlt
   clear hc
   by_cases hb:most<(f k:Int)
   ·have HB:=Lib.hid (bigB_yes hlt hb)
    go_wp2
    go_ret
    exact⟨ret_int (by rw[HE.out,if_pos HB.out]),rfl⟩
   ·go_wp2
    refine⟨⟨k+1,hlt,by go_num,fun j hj=>?_⟩,by simp[intOf];omega⟩
    rcases Nat.eq_or_lt_of_le (Nat.le_of_lt_succ hj)with e|e
    ·subst e;omega
    ·exact HALL.out j e
  ·obtain rfl:k=n:=by omega
   clear hk hlt
   have HE2:=Lib.hid (HE.out.trans (by rw[if_neg (by rw[bigB_mk HALL.out];decide),←HA.out,←HU.out]:_=endE a u))
   by_cases e1:(32768:Int)<(a:Int)
   ·go_wp2_with (go_at_call 147;refine(parts_any _ B A k c f HR.out (by omega)).mono ?_;rintro e w' ⟨rfl,rfl⟩;rw[←HA.out,←HU.out])
    go_ret
    exact⟨ret_int (by rw[HE2.out];unfold endE;rw[if_pos (by omega)]),rfl⟩
   ·have d1:decide ((32768:Int)<(a:Int))=false:=by simp;omega
    have hEE:E=if endB a u=true then 0 else 31:=by
     rw[HE2.out];unfold endE endB
     rw[if_neg (by omega)];simp only[decide_eq_true_eq]
    have HE3:=Lib.hid hEE
    clear hEE
    by_cases g1:(a:Int)=32768
    ·have t1:((a:Int)==32768)=true:=by simpa using g1
     have HB:=Lib.hid (show endB a u=true from decide_eq_true (.inl (by omega)))
     clear g1 e1
     go_wp2_with (go_at_call 147;refine(parts_any _ B A k c f HR.out (by omega)).mono ?_;rintro e w' ⟨rfl,rfl⟩;rw[←HA.out,←HU.out])
     go_ret
     exact⟨ret_int (by rw[HE3.out,if_pos HB.out]),rfl⟩
    ·have t1:((a:Int)==32768)=false:=by simpa using g1
     by_cases g2:(u:Int)=0
     ·have t2:((u:Int)==0)=true:=by simpa using g2
      have HB:=Lib.hid (show endB a u=true from decide_eq_true (.inr (.inl (by omega))))
      clear g1 g2 e1
      go_wp2_with (go_at_call 147;refine(parts_any _ B A k c f HR.out (by omega)).mono ?_;rintro e w' ⟨rfl,rfl⟩;rw[←HA.out,←HU.out])
      go_ret
      exact⟨ret_int (by rw[HE3.out,if_pos HB.out]),rfl⟩
     ·have t2:((u:Int)==0)=false:=by simpa using g2
      by_cases g3:(u:Int)=1
      ·have t3:((u:Int)==1)=true:=by simpa using g3
       by_cases g4:(a:Int)=16384
       ·have t4:((a:Int)==16384)=true:=by simpa using g4
        have HB:=Lib.hid (show endB a u=true from decide_eq_true (.inr (.inr ⟨by omega,by omega⟩)))
        clear g1 g2 g3 g4 e1
        go_wp2_with (go_at_call 147;refine(parts_any _ B A k c f HR.out (by omega)).mono ?_;rintro e w' ⟨rfl,rfl⟩;rw[←HA.out,←HU.out])
        go_ret
        exact⟨ret_int (by rw[HE3.out,if_pos HB.out]),rfl⟩
       ·have t4:((a:Int)==16384)=false:=by simpa using g4
        have HB:=Lib.hid (show endB a u=false from decide_eq_false (by omega))
        clear g1 g2 g3 g4 e1
        go_wp2_with (go_at_call 147;refine(parts_any _ B A k c f HR.out (by omega)).mono ?_;rintro e w' ⟨rfl,rfl⟩;rw[←HA.out,←HU.out])
        go_ret
        exact⟨ret_int (by rw[HE3.out,if_neg (by rw[HB.out];decide)]),rfl⟩
      ·have t3:((u:Int)==1)=false:=by simpa using g3
       have HB:=Lib.hid (show endB a u=false from decide_eq_false (by omega))
       clear g1 g2 g3 e1
       go_wp2_with (go_at_call 147;refine(parts_any _ B A k c f HR.out (by omega)).mono ?_;rintro e w' ⟨rfl,rfl⟩;rw[←HA.out,←HU.out])
       go_ret
       exact⟨ret_int (by rw[HE3.out,if_neg (by rw[HB.out];decide)]),rfl⟩
theorem rcheck_any(w:World)(B:Nat)(A:Option Addr)(n c:Nat)(f:Nat→Nat)(most:Int)(hr:RdB w B A n f):
  Calls Tryz.prog 101 #[.slice A n c,.int .i64 most] w fun e w'=>e=.returned (.int .i64 (checkE f n most))∧w=w':=by
 unfold checkE
 by_cases h1:most<1∨15<most
 ·rw[if_pos h1];exact rcheck_arg w A n c most h1
 ·rw[if_neg h1]
  by_cases h2:320<n
  ·rw[if_pos h2];exact rcheck_many w A n c most (by omega) (by omega) h2
  ·rw[if_neg h2];exact rcheck_rest w B A n c f most hr (by omega) (by omega) (by omega)
end Go.Proofs.YtgokdgcmkcmjeaaGreat
namespace Go.Proofs.YtgokdgcmkcmjeaaGreat
open Go.RowKit
def madeB(f:Nat→Nat)(m i j:Nat):Bool:=decide (0<f j∧(f j<m∨(f j=m∧j<i)))
def madeX(f:Nat→Nat)(n m i j:Nat):Nat:=if madeB f m i j=true then codeB f n j else 0
def madeL(f:Nat→Nat)(m i j:Nat):Nat:=if madeB f m i j=true then f j else 0
theorem made_step{f:Nat→Nat}{n m i:Nat}(h:f i=m)(hm:0<m):upd (madeX f n m i) i (codeB f n i)=madeX f n m (i+1)∧upd (madeL f m i) i m=madeL f m (i+1):=by
 have hb:∀j,j≠i→madeB f m i j=madeB f m (i+1) j:=fun j hj=>by unfold madeB;rw[decide_eq_decide];omega
 have hi:madeB f m (i+1) i=true:=decide_eq_true (by omega)
 constructor
 ·funext j
  unfold upd
  by_cases e:j=i
  ·subst e;rw[if_pos rfl];unfold madeX;rw[hi,if_pos rfl]
  ·rw[if_neg e];unfold madeX;rw[hb j e]
 ·funext j
  unfold upd
  by_cases e:j=i
  ·subst e;rw[if_pos rfl];unfold madeL;rw[hi,if_pos rfl,h]
  ·rw[if_neg e];unfold madeL;rw[hb j e]
theorem made_skip{f:Nat→Nat}{n m i:Nat}(h:f i≠m):madeX f n m i=madeX f n m (i+1)∧madeL f m i=madeL f m (i+1):=by
 have hb:∀j,madeB f m i j=madeB f m (i+1) j:=fun j=>by
  unfold madeB;rw[decide_eq_decide]
  by_cases e:j=i
  ·subst e;omega
  ·omega
 constructor
 ·funext j;unfold madeX;rw[hb j]
 ·funext j;unfold madeL;rw[hb j]
theorem made_next{f:Nat→Nat}{n m j:Nat}(hj:j<n):madeX f n m n j=madeX f n (m+1) 0 j∧madeL f m n j=madeL f (m+1) 0 j:=by
 have hb:madeB f m n j=madeB f (m+1) 0 j:=by unfold madeB;rw[decide_eq_decide];omega
 constructor
 ·unfold madeX;rw[hb]
 ·unfold madeL;rw[hb]
theorem made_first(f:Nat→Nat)(n j:Nat):zeroN j=madeX f n 1 0 j∧zeroN j=madeL f 1 0 j:=by
 have hb:madeB f 1 0 j=false:=decide_eq_false (by omega)
 constructor
 ·unfold madeX;rw[hb];rfl
 ·unfold madeL;rw[hb];rfl
theorem made_last{f:Nat→Nat}{n j:Nat}(h:f j≤15):madeX f n 16 0 j=codeB f n j∧madeL f 16 0 j=f j:=by
 by_cases h0:0<f j
 ·have hb:madeB f 16 0 j=true:=decide_eq_true (by omega)
  constructor
  ·unfold madeX;rw[hb,if_pos rfl]
  ·unfold madeL;rw[hb,if_pos rfl]
 ·have hb:madeB f 16 0 j=false:=decide_eq_false (by omega)
  constructor
  ·unfold madeX;rw[hb,if_neg (by decide)];unfold codeB;rw[if_pos (by omega)]
  ·unfold madeL;rw[hb,if_neg (by decide)];omega
theorem st_next(f:Nat→Nat)(n m:Nat)(hm:0<m):stN f n m n=stN f n (m+1) 0:=by
 obtain⟨k,rfl⟩:∃k,m=k+1:=⟨m-1,by omega⟩
 unfold stN
 rw[Nat.add_sub_cancel,Nat.add_sub_cancel]
 simp only[sumTo,inN];omega
theorem st_le{f:Nat→Nat}{n m i:Nat}(hi:i≤n)(hm:0<m)(hm2:m≤15)(h:∀j,j<n→f j≤15)(ha:allN f n≤32768):stN f n m i≤32768:=by
 rw[allN_sum f n h]at ha
 have h1:=inN_mono f m hi
 have h2:=sumTo_mono f n hm2
 obtain⟨k,rfl⟩:∃k,m=k+1:=⟨m-1,by omega⟩
 have e:sumTo f n (k+1)=sumTo f n k+inN f (k+1) n:=rfl
 unfold stN
 rw[Nat.add_sub_cancel]
 omega
theorem wrap_small(q:Nat)(h:q≤32768):wrap64 (q:Int)%4294967296=(q:Int):=by unfold wrap64;omega
theorem made_any(w:World)(A:Option Addr)(n c:Nat)(f:Nat→Nat)(hr:RdB w w.heap.size A n f)(hn:n≤1000)(h15:∀j,j<n→f j≤15)(ha:allN f n≤32768):
  Calls Tryz.prog 70 #[.slice A n c] w fun e w'=>e=.returned (.slice (some ⟨w.heap.size,0,none⟩) n n)∧Below w.heap.size w w'∧RowC w' w.heap.size n (codeB f n) f:=by
 obtain⟨i0,hi,hz0,hz1,hz2⟩:=info_parts infoCode
 have hmk:∀u:World,(Instr.makeSlice 107 (.int .i64 (n:Int)) (.int .i64 (n:Int))).run Tryz.prog u=
   .ok (.slice (some ⟨u.heap.size,0,none⟩) n n) (u.alloc (.cells (madeCells #[.int .u32 0,.int .u8 0] (n*2)) 159)):=fun u=>by
  have h:=run_make (P:=Tryz.prog) u 107 159 i0 (.agg #[.int .u32 0,.int .u8 0]) Tryz.underlying107 hi hz0 .i64 .i64 (n:Int) (n:Int) (by omega) (Int.le_refl _) (by rw[hz2];omega) (by omega)
  rw[Int.toNat_natCast]at h
  simpa[hz1,Value.cells]using h
 have HR:=Lib.hid hr;have H15:=Lib.hid h15;have HA:=Lib.hid ha
 clear hr h15 ha
 go_enter Tryz.func70,Tryz.ntmps70
 go_wp2
 clear hmk
 go_loopw [4,5,6] (fun a m _ wr=>∃k:Nat,1≤k∧k≤16∧m=.int .i64 k∧a=.int .i64 (stN f n k 0:Nat)∧RowC wr w.heap.size n (madeX f n k 0) (madeL f k 0)∧Below w.heap.size w wr) (fun _ m _ _=>16-(intOf m).toNat)
 case atStart=>
  exact⟨1,Nat.le_refl _,by omega,rfl,rfl,(rowC_made w n).ext (fun j _=>(made_first f n j).1) (fun j _=>(made_first f n j).2),(Below.refl _ _).alloc (Nat.le_refl _) _⟩
 case round=>
  obtain⟨k,hk1,hk,rfl,rfl,hrow,hb⟩:=hrel
  obtain⟨wo,rfl⟩:∃wo:World,wo=wr:=⟨_,rfl⟩
  by_cases hlt:k<16
  ·have hd:decide ((k:Int)≤15)=true:=by simp;omega
   have hk256:(k:Int)%256=k:=by omega
   have HROW:=Lib.hid hrow;have HB:=Lib.hid hb
   clear hrow hb
   obtain⟨a0,ha0⟩:∃a,a=stN f n k 0:=⟨_,rfl⟩
   have HA0:=Lib.hid ha0
   rw[←ha0]
   clear ha0
   go_wp2
   go_loopw [4,6] (fun a i wi=>∃j:Nat,j≤n∧i=.int .i64 j∧a=.int .i64 (stN f n k j:Nat)∧RowC wi w.heap.size n (madeX f n k j) (madeL f k j)∧Below w.heap.size w wi) (fun _ i _=>n-(intOf i).toNat)
   case atStart=>exact⟨0,Nat.zero_le _,rfl,by rw[HA0.out],HROW.out,HB.out⟩
   case round=>
    obtain⟨j,hj,rfl,rfl,hrow,hb⟩:=hrel
    have hst:=st_le hj hk1 (by omega) H15.out HA.out
    by_cases hlt2:j<n
    ·obtain⟨b,o,rfl,hbl,hc⟩:=(HR.out.below hb (Nat.le_refl _)).2 (by omega)
     have hcell:=hc j hlt2
     clear hc
     have hf8:=HR.out.1 j
     by_cases he:f j=k
     ·have hpt:=pt_pos (m:=k) (by omega)
      have hptl:=pt_le k
      have hc1:=(hrow.cell hlt2).1
      have hc2:=(hrow.cell hlt2).2
      have hf1:=hrow.frozen (j*2)
      have hf2:=hrow.frozen (j*2+1)
      have hcode:codeB f n j=stN f n k j/pt k:=by unfold codeB;rw[if_neg (by omega),he]
      have hstep:stN f n k (j+1)=stN f n k j+pt k:=by unfold stN;simp only[inN];rw[if_pos he];omega
      have HROW2:=Lib.hid hrow;have HB2:=Lib.hid hb;have HC:=Lib.hid hcode;have HS:=Lib.hid hstep;have HE:=Lib.hid he
      have he2:((f j:Nat):Int)=(k:Int):=by omega
      rw[he2]at hcell
      have hkk:((k:Int)==(k:Int))=true:=by simp
      clear hrow hb hcode hstep he he2
      obtain⟨a,hae⟩:∃a,a=stN f n k j:=⟨_,rfl⟩
      obtain⟨p,hpe⟩:∃p,p=pt k:=⟨_,rfl⟩
      have HAE:=Lib.hid hae;have HPE:=Lib.hid hpe
      rw[←hae]at hst⊢
      rw[←hpe]at hpt hptl
      clear hae hpe
      have hdiv:a/p≤32768:=Nat.le_trans (Nat.div_le_self _ _) hst
      go_wp2_with (go_at_call 107;refine(part_any _ k (by omega)).mono ?_;rintro e w' ⟨rfl,rfl⟩;rw[←HPE.out])
      go_roundw
      case rel=>
       have hdv:wrap64 ((a:Int)/(p:Int))%4294967296=((codeB f n j:Nat):Int):=by
        rw[HC.out,←HAE.out,←HPE.out,←Int.natCast_ediv]
        exact wrap_small _ hdiv
       have hset:=HROW2.out.set j (codeB f n j) k
       rw[(made_step HE.out (by omega)).1,(made_step (n:=n) HE.out (by omega)).2]at hset
       refine⟨j+1,by omega,by go_num,val_int (by rw[HS.out,←HAE.out,←HPE.out];omega),by rw[hdv];exact hset,?_⟩
       exact(HB2.out.setCell (Nat.le_refl _) _).setCell (Nat.le_refl _) _
      case measure=>simp[intOf];omega
     ·have hstep:stN f n k (j+1)=stN f n k j:=by unfold stN;simp only[inN];rw[if_neg he];omega
      have hno:(((f j:Nat):Int)==(k:Int))=false:=by simp;omega
      have hm:=made_skip (n:=n) he
      have HROW2:=Lib.hid hrow;have HB2:=Lib.hid hb;have HS:=Lib.hid hstep;have HM:=Lib.hid hm
      clear hrow hb hstep hm
      go_wp2
      go_roundw
      case rel=>
       refine⟨j+1,by omega,by go_num,by rw[HS.out],?_,HB2.out⟩
       rw[←HM.out.1,←HM.out.2];exact HROW2.out
      case measure=>simp[intOf];omega
    ·obtain rfl:j=n:=by omega
     have HROW2:=Lib.hid hrow;have HB2:=Lib.hid hb
     have HN:=Lib.hid (st_next f j k hk1)
     clear hrow hb hlt2 hj
     go_wp2
     go_roundw
     case rel=>exact⟨k+1,by omega,by omega,by go_num,by rw[HN.out],HROW2.out.ext (fun i hi=>(made_next hi).1) (fun i hi=>(made_next (n:=j) hi).2),HB2.out⟩
     case measure=>simp[intOf];omega
  ·obtain rfl:k=16:=by omega
   have HROW:=Lib.hid hrow;have HB:=Lib.hid hb
   clear hrow hb hlt hk
   go_wp2
   go_ret
   exact⟨rfl,HB.out,HROW.out.ext (fun j hj=>(made_last (H15.out j hj)).1) (fun j hj=>(made_last (n:=n) (H15.out j hj)).2)⟩
end Go.Proofs.YtgokdgcmkcmjeaaGreat
namespace Go.Proofs.YtgokdgcmkcmjeaaGreat
open Go.RowKit Go.ChangeShapes Go.WideShapes Go.ChangeAt Go.Joins
def run0:Int×Int:=(0,0)
def runC(r:Int×Int):List Value:=[.int .i64 r.1,.int .i64 r.2]
def runsL:List (Int×Int)→List Value
 |[]=>[]
 |r::l=>runC r++runsL l
theorem runsL_length:∀l,(runsL l).length=l.length*2
 |[]=>rfl
 |r::l=>by simp only[runsL,List.length_append,List.length_cons,runsL_length l];simp[runC];omega
theorem runsL_app:∀l m,runsL (l++m)=runsL l++runsL m
 |[],_=>rfl
 |r::l,m=>by simp[runsL,runsL_app l m]
theorem runsL_get:∀(l:List (Int×Int)) (j i:Nat),j<l.length→i<2→(runsL l)[j*2+i]?=(runC (l.getD j run0))[i]?
 |[],j,i,h,_=>absurd h (by simp)
 |r::l,0,i,_,hi=>by
  simp only[runsL,Nat.zero_mul,Nat.zero_add]
  rw[List.getElem?_append_left (by simpa[runC]using hi)]
  rfl
 |r::l,j+1,i,h,hi=>by
  simp only[runsL]
  rw[List.getElem?_append_right (by simp[runC];omega)]
  have e:(j+1)*2+i-(runC r).length=j*2+i:=by simp[runC];omega
  rw[e,runsL_get l j i (by simpa using h) hi]
  rfl
theorem infoRun:(Tryz.prog.info? 208).map (fun i=>(i.zero,i.size,i.bytes))=some (some (.agg #[.int .i64 0,.int .i64 0]),2,16):=by kernel_rfl
theorem szRun:(Tryz.prog.info? 208).map (·.size)=some 2:=by kernel_rfl
def RdU(w:World)(B:Nat)(A:Option Addr)(l:List (Int×Int)):Prop:=SrcL w B 2 A l.length (runsL l)
theorem RdU.below{w w':World}{B B':Nat}{A:Option Addr}{l:List (Int×Int)}(h:RdU w B A l)(hb:Below B' w w')(hB:B≤B'):RdU w' B A l:=SrcL.below h hb hB
theorem RdU.of_own{w:World}{base c n:Nat}{A:Option Addr}{l:List (Int×Int)}(h:w.ownsRow base 208 2 (.slice A n c) n (runsL l)):n=l.length∧RdU w w.heap.size A l:=by
 have h1:=SrcL.of_own h
 have h2:=h1.1
 rw[runsL_length]at h2
 obtain rfl:n=l.length:=by omega
 exact⟨rfl,h1⟩
theorem RdU.at{w:World}{B:Nat}{A:Option Addr}{l:List (Int×Int)}(h:RdU w B A l){k:Nat}(hk:k<l.length):∃b o,A=some ⟨b,o,none⟩∧b<B∧∀j,j<l.length→
  w.cell? ⟨b,o+j*2,none⟩=some (.int .i64 (l.getD j run0).1)∧w.cell? ⟨b,o+j*2+1,none⟩=some (.int .i64 (l.getD j run0).2):=by
 obtain⟨b,o,h1,h2,h3⟩:=h.2 (by omega)
 refine⟨b,o,h1,h2,fun j hj=>⟨?_,?_⟩⟩
 ·have:=h3 (j*2+0) _ ((runsL_get l j 0 hj (by omega)).trans rfl)
  simpa using this
 ·have:=h3 (j*2+1) _ ((runsL_get l j 1 hj (by omega)).trans rfl)
  rw[show o+j*2+1=o+(j*2+1) by omega];exact this
theorem RdU.range{w:World}{B:Nat}{A:Option Addr}{l:List (Int×Int)}(h:RdU w B A l){b o:Nat}(hA:A=some ⟨b,o,none⟩){j:Nat}(hj:j<l.length):w.rangeAt b (o+j*2) (runC (l.getD j run0)):=by
 obtain⟨b',o',h1,_,h3⟩:=h.at hj
 rw[hA]at h1
 injection h1 with h1
 injection h1 with hb ho _
 subst hb;subst ho
 obtain⟨c0,c1⟩:=h3 j hj
 intro i v hv
 rcases i with _|_|i
 ·simp[runC]at hv;subst hv;exact c0
 ·simp[runC]at hv;subst hv;exact c1
 ·simp[runC]at hv
theorem run_oneU(w:World)(base:Nat)(A:Option Addr)(n c:Nat)(l:List (Int×Int))(hown:w.ownsRow base 208 2 (.slice A n c) n (runsL l))(r:Int×Int)(hn:n≤1000000)(hbase:base≤w.heap.size):
  ∃A' c' w',(Builtin.append_ #[195,195] 195 #[.slice A n c,.slice (some ⟨w.heap.size,0,none⟩) 1 1]).run Tryz.prog (w.alloc (.cells #[.int .i64 r.1,.int .i64 r.2] 208))=.ok (.slice A' (n+1) c') w'∧
   w'.ownsRow base 208 2 (.slice A' (n+1) c') (n+1) (runsL (l++[r]))∧Below base w w':=by
 have hb1:Below base w (w.alloc (.cells #[.int .i64 r.1,.int .i64 r.2] 208)):=(Below.refl base w).alloc hbase _
 obtain⟨A',c',w',h2,o2,b2⟩:=run_app (by_:=16) Tryz.underlying195 infoRun rfl (by decide) (w.alloc (.cells #[.int .i64 r.1,.int .i64 r.2] 208)) base _ (.slice A n c) n _ (hown.alloc _) _ 1 1 _
  (SrcL.new w 2 1 #[.int .i64 r.1,.int .i64 r.2] 208 rfl) (fun u hu=>by simp at hu;rcases hu with rfl|rfl<;>rfl) (by unfold maxLen;omega) (by omega) 195 (fun h=>by cases h) (Nat.le_trans hbase hb1.size)
 refine⟨A',c',w',h2,?_,hb1.trans b2⟩
 rw[runsL_app]
 exact o2
def RuR(w:World)(B:Nat)(A:Option Addr)(n c:Nat)(l:List (Int×Int)):Prop:=n=l.length∧RdU w B A l∧(A=none→c=0)∧n≤c∧c≤maxLen
theorem RuR.of_own{w:World}{base n c:Nat}{A:Option Addr}{l:List (Int×Int)}(h:w.ownsRow base 208 2 (.slice A n c) n (runsL l)):RuR w w.heap.size A n c l:=by
 obtain⟨h1,h2⟩:=RdU.of_own h
 refine⟨h1,h2,?_⟩
 rcases h.2 with⟨hv,h0⟩|⟨g,cap,cur,hv,_,_,k1,k2,_⟩
 ·injection hv with h3 h4 h5
  exact⟨fun _=>h5,by omega,by unfold maxLen;omega⟩
 ·injection hv with h3 h4 h5
  exact⟨(fun h=>by rw[h]at h3;cases h3),by omega,by omega⟩
end Go.Proofs.YtgokdgcmkcmjeaaGreat
namespace Go.Proofs.YtgokdgcmkcmjeaaGreat
open Go.RowKit Go.ChangeShapes Go.WideShapes Go.ChangeAt Go.Joins
theorem decN0{p:Prop}[Decidable p](h:¬p):decide p=false:=by simp[h]
theorem decY0{p:Prop}[Decidable p](h:p):decide p=true:=by simp[h]
theorem built_run(s x:Int):Tryz.prog.built 208 [(0,.int .i64 s),(1,.int .i64 x)]=some #[.int .i64 s,.int .i64 x]:=by kernel_rfl
end Go.Proofs.YtgokdgcmkcmjeaaGreat
namespace Go.Proofs.YtgokdgcmkcmjeaaGreat
open Go.RowKit Go.ChangeShapes Go.WideShapes Go.ChangeAt Go.Joins
theorem own_keepU{w w':World}{base sz n:Nat}{e:TypeId}{v:Value}{xs:List Value}(h:w.ownsRow base e sz v n xs)(hb:Below w.heap.size w w'):w'.ownsRow base e sz v n xs:=by
 obtain⟨h1,h2⟩:=h
 refine⟨h1,?_⟩
 rcases h2 with h2|⟨g,cap,cur,hv,hg,hh,r⟩
 ·exact .inl h2
 ·exact .inr ⟨g,cap,cur,hv,hg,(hb.block g (Array.getElem?_eq_some_iff.1 hh).1).trans hh,r⟩
theorem rbits10_any(w:World)(s:Int):Calls Tryz.prog 145 #[.int .i64 s] w fun e w'=>e=.returned (.tuple #[.int .i64 (bitV s),.int .i64 (bitE s)])∧w=w':=by
 by_cases y0:s<0
 ·have e1:bitV s=0:=by unfold bitV;rw[if_neg (by omega)]
  have e2:bitE s=2:=by unfold bitE;rw[if_neg (by omega)]
  rw[e1,e2]
  have d0:decide (s<0)=true:=decY0 y0
  clear e1 e2
  go_enter Tryz.func145,Tryz.ntmps145
  go_wp2
  go_ret2
  exact⟨rfl,rfl⟩
 have d0:decide (s<0)=false:=decN0 y0
 by_cases y1:18<s
 ·have e1:bitV s=0:=by unfold bitV;rw[if_neg (by omega)]
  have e2:bitE s=2:=by unfold bitE;rw[if_neg (by omega)]
  rw[e1,e2]
  have d1:decide (18<s)=true:=decY0 y1
  clear e1 e2
  go_enter Tryz.func145,Tryz.ntmps145
  go_wp2
  go_ret2
  exact⟨rfl,rfl⟩
 have d1:decide (18<s)=false:=decN0 y1
 by_cases y2:s=16
 ·have e1:bitV s=2:=by unfold bitV bitsR;rw[if_pos (by omega),if_pos y2];rfl
  have e2:bitE s=0:=by unfold bitE;rw[if_pos (by omega)]
  rw[e1,e2]
  have d2:(s==16)=true:=by simp[y2]
  clear y2 y0 y1
  clear e1 e2
  go_enter Tryz.func145,Tryz.ntmps145
  go_wp2
  go_ret2
  exact⟨rfl,rfl⟩
 have d2:(s==16)=false:=by simp[y2]
 by_cases y3:s=17
 ·have e1:bitV s=3:=by unfold bitV bitsR;rw[if_pos (by omega),if_neg y2,if_pos y3];rfl
  have e2:bitE s=0:=by unfold bitE;rw[if_pos (by omega)]
  rw[e1,e2]
  have d3:(s==17)=true:=by simp[y3]
  clear y3 y2
  clear e1 e2
  go_enter Tryz.func145,Tryz.ntmps145
  go_wp2
  go_ret2
  exact⟨rfl,rfl⟩
 have d3:(s==17)=false:=by simp[y3]
 by_cases y4:s=18
 ·have e1:bitV s=7:=by unfold bitV bitsR;rw[if_pos (by omega),if_neg y2,if_neg y3,if_pos y4];rfl
  have e2:bitE s=0:=by unfold bitE;rw[if_pos (by omega)]
  rw[e1,e2]
  have d4:(s==18)=true:=by simp[y4]
  clear y4 y3 y2
  clear e1 e2
  go_enter Tryz.func145,Tryz.ntmps145
  go_wp2
  go_ret2
  exact⟨rfl,rfl⟩
 have d4:(s==18)=false:=by simp[y4]
 have e1:bitV s=0:=by unfold bitV bitsR;rw[if_pos (by omega),if_neg y2,if_neg y3,if_neg y4];rfl
 have e2:bitE s=0:=by unfold bitE;rw[if_pos (by omega)]
 rw[e1,e2]
 clear e1 e2
 go_enter Tryz.func145,Tryz.ntmps145
 go_wp2
 go_ret2
 exact⟨rfl,rfl⟩
theorem rtimes10_any(w:World)(s:Int)(x:Nat)(hx:x≤1000):Calls Tryz.prog 146 #[.agg #[.int .i64 s,.int .i64 (x:Int)]] w fun e w'=>e=.returned (.tuple #[.int .i64 ((timesR s (x:Int):Nat):Int),.bool (s==16)])∧Below w.heap.size w w':=by
 have HB:=Lib.hid ((Below.refl w.heap.size w).alloc (Nat.le_refl _) (.cells #[.int .i64 s,.int .i64 (x:Int)] 208))
 by_cases y16:s=16
 ·have e1:timesR s (x:Int)=x+3:=by unfold timesR;rw[if_pos (.inl y16),Int.toNat_natCast]
  rw[e1]
  have d16:(s==16)=true:=by simp[y16]
  skip
  rw[d16]
  have ex:(x:Int)+3=((x+3:Nat):Int):=by omega
  obtain⟨u,hu⟩:∃u,u=x+3:=⟨_,rfl⟩
  rw[←hu]at ex⊢
  clear e1 hu y16
  go_enter Tryz.func146,Tryz.ntmps146
  go_wp2
  go_ret2
  exact⟨rfl,HB.out⟩
 have d16:(s==16)=false:=by simp[y16]
 by_cases y17:s=17
 ·have e1:timesR s (x:Int)=x+3:=by unfold timesR;rw[if_pos (.inr y17),Int.toNat_natCast]
  rw[e1]
  have d17:(s==17)=true:=by simp[y17]
  have d16':(s==16)=false:=d16
  rw[d16]
  have ex:(x:Int)+3=((x+3:Nat):Int):=by omega
  obtain⟨u,hu⟩:∃u,u=x+3:=⟨_,rfl⟩
  rw[←hu]at ex⊢
  clear e1 hu y16 y17
  go_enter Tryz.func146,Tryz.ntmps146
  go_wp2
  go_ret2
  exact⟨rfl,HB.out⟩
 have d17:(s==17)=false:=by simp[y17]
 by_cases y18:s=18
 ·have e1:timesR s (x:Int)=x+11:=by unfold timesR;rw[if_neg (by omega),if_pos y18,Int.toNat_natCast]
  rw[e1]
  have d18:(s==18)=true:=by simp[y18]
  have d16':(s==16)=false:=d16
  rw[d16]
  have ex:(x:Int)+11=((x+11:Nat):Int):=by omega
  obtain⟨u,hu⟩:∃u,u=x+11:=⟨_,rfl⟩
  rw[←hu]at ex⊢
  clear e1 hu y16 y17 y18
  go_enter Tryz.func146,Tryz.ntmps146
  go_wp2
  go_ret2
  exact⟨rfl,HB.out⟩
 have d18:(s==18)=false:=by simp[y18]
 have e1:timesR s (x:Int)=1:=by unfold timesR;rw[if_neg (by omega),if_neg y18]
 rw[e1,d16]
 clear e1 y16 y17 y18
 go_enter Tryz.func146,Tryz.ntmps146
 go_wp2
 go_ret2
 exact⟨rfl,HB.out⟩
def p2U(k:Nat):Nat:=2^k
theorem p2U_le{k:Nat}(h:k≤7):p2U k≤128:=by
 have:=Nat.pow_le_pow_right (n:=2) (by omega) h
 exact this
end Go.Proofs.YtgokdgcmkcmjeaaGreat
namespace Go.Proofs.YtgokdgcmkcmjeaaGreat
open Go.RowKit
theorem run_app_g{T E:TypeId}{z:Value}{sz by_:Nat}(hT:Tryz.prog.underlying T=some (.slice E))(hI:(Tryz.prog.info? E).map (fun i=>(i.zero,i.size,i.bytes))=some (some z,sz,by_))(hz:z.cells.size=sz)(hsz:0<sz)
  (w:World) (base B:Nat) (v0:Value) (n:Nat) (xs:List Value) (hown:w.ownsRow base E sz v0 n xs) (A:Option Addr) (m c:Nat) (ys:List Value) (hr:SrcL w B sz A m ys) (h1:∀u∈ys,u.oneCell'=true)
  (hnm:n+m≤maxLen) (hby:(n+m)*by_≤140737488355328) (ty:TypeId) (hA:A=none→c=0) (hbase:base≤w.heap.size):
  ∃A' c' w',(Builtin.append_ #[T,T] ty #[v0,.slice A m c]).run Tryz.prog w=.ok (.slice A' (n+m) c') w'∧w'.ownsRow base E sz (.slice A' (n+m) c') (n+m) (xs++ys)∧w.grownBy w' v0.ownBlock:=by
 obtain⟨i0,hi,hz0,hz1,hz2⟩:=info_parts hI
 have key:∃v' w',(Builtin.append_ #[T,T] ty #[v0,.slice A m c]).run Tryz.prog w=.ok v' w'∧w'.ownsRow base E sz v' (n+m) (xs++ys)∧w.grownBy w' v0.ownBlock:=by
  rcases A with _|ad
  ·have h0:m=0:=by
    rcases Nat.eq_zero_or_pos m with h|h
    ·exact h
    ·obtain⟨b,o,h,_⟩:=hr.2 h;cases h
   subst h0
   obtain rfl:=hA rfl
   have hy:ys=[]:=List.length_eq_zero_iff.1 (by have:=hr.1;omega)
   subst hy
   refine⟨v0,w,run_append_owned_none (P:=Tryz.prog) (w:=w) base T ty E i0 sz hT hi v0 n _ hown,?_,World.grownBy.refl _ _⟩
   simpa using hown
  ·have hcells:∀j u,ys[j]?=some u→w.cell? (ad.add j)=some u:=by
    intro j u hu
    have hm:0<m:=by
     rcases Nat.eq_zero_or_pos m with h|h
     ·have hy:ys=[]:=List.length_eq_zero_iff.1 (by have:=hr.1;rw[h]at this;omega)
      rw[hy]at hu;cases hu
     ·exact h
    obtain⟨b,o,h,_,hc⟩:=hr.2 hm
    injection h with h
    subst h
    have e:(⟨b,o,none⟩:Addr).add j=⟨b,o+j,none⟩:=by unfold Addr.add;split<;>simp_all
    rw[e];exact hc j u hu
   obtain⟨v',w',h1,h2,h3,_,_⟩:=run_append_own_at (P:=Tryz.prog) w base T ty E i0 z sz by_ hT hi hz0 hz1 hz2 hz hsz v0 n xs hown ad m c ys hr.1 hcells h1 hnm hby hbase
   exact⟨v',w',h1,h2,h3⟩
 obtain⟨v',w',h1,h2,h3⟩:=key
 have hv:∃A' c',v'=.slice A' (n+m) c':=by
  rcases h2.2 with⟨rfl,h⟩|⟨g,cap,cur,rfl,_⟩
  ·exact⟨none,0,by rw[h]⟩
  ·exact⟨_,_,rfl⟩
 obtain⟨A',c',rfl⟩:=hv
 exact⟨A',c',w',h1,h2,h3⟩
theorem own_cells{w:World}{base sz n:Nat}{e:TypeId}{v:Value}{xs:List Value}(h:w.ownsRow base e sz v n xs):∀(j:Nat) (o:Obj),v.ownBlock=some j→w.heap[j]?=some o→o.isCells=true:=by
 intro j o hj ho
 rcases h.2 with⟨rfl,_⟩|⟨g,cap,cur,rfl,hg,hh,_⟩
 ·simp[Value.ownBlock]at hj
 ·simp[Value.ownBlock]at hj
  subst hj
  rw[ho]at hh
  cases hh;rfl
theorem own_grown{w w':World}{base sz n:Nat}{e:TypeId}{v:Value}{xs:List Value}{row:Option Nat}(h:w.ownsRow base e sz v n xs)(hg:w.grownBy w' row)(hr:∀r,row=some r→∃o:Obj,w.heap[r]?=some o∧o.isCells=false):w'.ownsRow base e sz v n xs:=by
 obtain⟨h1,h2⟩:=h
 refine⟨h1,?_⟩
 rcases h2 with h2|⟨g,cap,cur,hv,hge,hh,r⟩
 ·exact .inl h2
 ·refine .inr ⟨g,cap,cur,hv,hge,?_,r⟩
  refine(hg.block g (Array.getElem?_eq_some_iff.1 hh).1 fun he=>?_).trans hh
  obtain⟨o,ho,hc⟩:=hr g he.symm
  rw[ho]at hh
  cases hh;cases hc
theorem run_one_g(w:World)(base:Nat)(A:Option Addr)(n c:Nat)(xs:List Int)(hown:w.ownsRow base 3 1 (.slice A n c) n (intsL xs))(x:Int)(hn:n≤1000000)(hbase:base≤w.heap.size):
  ∃A' c' w',(Builtin.append_ #[24,24] 24 #[.slice A n c,.slice (some ⟨w.heap.size,0,none⟩) 1 1]).run Tryz.prog (w.alloc (.cells #[.int .i64 x] 3))=.ok (.slice A' (n+1) c') w'∧
   w'.ownsRow base 3 1 (.slice A' (n+1) c') (n+1) (intsL (xs++[x]))∧Below base w w'∧KeepsOthers w w':=by
 have hb1:Below base w (w.alloc (.cells #[.int .i64 x] 3)):=(Below.refl base w).alloc hbase _
 have ho1:=hown.alloc (.cells #[.int .i64 x] 3)
 obtain⟨A',c',w',h2,o2,b2⟩:=run_app_g (z:=.int .i64 0) (by_:=8) Tryz.underlying24 infoInt rfl (by decide) (w.alloc (.cells #[.int .i64 x] 3)) base _ (.slice A n c) n _ ho1 _ 1 1 _
  (SrcL.new w 1 1 #[.int .i64 x] 3 rfl) (fun u hu=>by simp at hu;subst hu;rfl) (by unfold maxLen;omega) (by omega) 24 (fun h=>by cases h) (Nat.le_trans hbase hb1.size)
 refine⟨A',c',w',h2,?_,hb1.trans ((Below.refl base _).grown b2 (Nat.le_trans hbase hb1.size) (own_geS ho1)),(KeepsOthers.alloc w _).trans (KeepsOthers.of_grownBy b2 (own_cells ho1))⟩
 have e:intsL xs++(#[Value.int .i64 x]:Array Value).toList=intsL (xs++[x]):=by simp[intsL]
 rw[e]at o2
 exact o2
end Go.Proofs.YtgokdgcmkcmjeaaGreat
namespace Go.Proofs.YtgokdgcmkcmjeaaGreat
open Go.RowKit
theorem bitsR_le'(s:Int):bitsR s≤7:=by
 unfold bitsR
 split
 ·omega
 ·split
  ·omega
  ·split<;>omega
theorem ord_lt:∀i,ordN i<19:=by
 intro i
 rcases Nat.lt_or_ge i 19 with h|h
 ·have:∀j,j<19→ordN j<19:=by decide
  exact this i h
 ·unfold ordN
  rw[List.getD_eq_getElem?_getD,List.getElem?_eq_none (by simpa using h)]
  show 0<19;omega
theorem ownsRow_base{w:World}{base base' sz n:Nat}{e:TypeId}{v:Value}{xs:List Value}(h:w.ownsRow base e sz v n xs)(hb:base'≤base):w.ownsRow base' e sz v n xs:=by
 obtain⟨h1,h2⟩:=h
 refine⟨h1,?_⟩
 rcases h2 with h2|⟨g,cap,cur,hv,hg,r⟩
 ·exact .inl h2
 ·exact .inr ⟨g,cap,cur,hv,Nat.le_trans hb hg,r⟩
end Go.Proofs.YtgokdgcmkcmjeaaGreat
