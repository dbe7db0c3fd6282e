/-
  Words and walks.
-/
import Derived.Test.YtgokdgcmkcmjeaaGreatpbbm
set_option maxRecDepth 100000
set_option maxHeartbeats 16000000
namespace Go.Proofs.YtgokdgcmkcmjeaaGreat
open Go.RowKit Go.ChangeShapes Go.WideShapes Go.ChangeAt Go.Joins
theorem RdB.keepS{S:Nat→Prop}{w w':World}{B n:Nat}{A:Option Addr}{f:Nat→Nat}(h:RdB w B A n f)(hk:KpB S w w')(hS:InS S A n)(hB:B≤w'.heap.size):RdB w' w'.heap.size A n f:=⟨h.1,fun h0=>by
 obtain⟨b,o,rfl,hb,hc⟩:=h.2 h0
 exact⟨b,o,rfl,by omega,fun j hj=>(hk.cell (p:=⟨b,o+j,none⟩) (hS b o h0 rfl)).trans (hc j hj)⟩⟩
theorem RdU.keepS{S:Nat→Prop}{w w':World}{B n:Nat}{A:Option Addr}{l:List (Int×Int)}(h:RdU w B A l)(hk:KpB S w w')(hn:n=l.length)(hS:InS S A n)(hB:B≤w'.heap.size):RdU w' w'.heap.size A l:=⟨h.1,fun h0=>by
 obtain⟨b,o,rfl,hb,hc⟩:=h.2 h0
 exact⟨b,o,rfl,by omega,fun j u hu=>(hk.cell (p:=⟨b,o+j,none⟩) (hS b o (by omega) rfl)).trans (hc j u hu)⟩⟩
def twoN(a b:Nat):Nat→Nat
 |0=>a
 |_=>b
def twoF(f g:Nat→Nat):Nat→Nat→Nat
 |0=>f
 |_=>g
theorem two_cat(f g:Nat→Nat)(a b:Nat):sumU (twoN a b) 2=a+b∧catU (twoN a b) (twoF f g) 2=cat f a g:=by
 refine⟨by simp[sumU,twoN],?_⟩
 funext j
 show cat (cat (fun _=>0) 0 f) (0+a) g j=cat f a g j
 unfold cat
 rw[Nat.zero_add]
 by_cases h:j<a
 ·rw[if_pos h,if_pos h,if_neg (by omega),Nat.sub_zero]
 ·rw[if_neg h,if_neg h]
theorem runD_sq(l:List Tok)(hl:l.length≤1000000):sqV (allF l) (nA l+nB l)=runD l∧sqE (allF l) (nA l+nB l)=0:=by
 obtain⟨_,_,_,_,_,a2,_,b2,_⟩:=dyn_ok l hl
 have h:sqE (allF l) (nA l+nB l)=0:=by unfold sqE;rw[if_neg (by omega),if_pos (fun i _=>all_le l hl i)]
 exact⟨by unfold sqV;rw[if_pos h];rfl,h⟩
theorem table11_any(w:World)(S:Nat→Prop)(B g:Nat)(f:Nat→Nat)(K:Nat)(A1:Option Addr)(c1:Nat)(A2:Option Addr)(c2:Nat)(l:List Tok)(h:RowAt w S B g f K)(hl:l.length≤1000000)
  (h1:ByR w w.heap.size A1 (nA l) c1 (lnA l)) (h2:ByR w w.heap.size A2 (nB l) c2 (lnB l)) (hk:K+bitsT (dynP l)≤16000000):
  Calls Tryz.prog 89 #[.pointer (some ⟨g,0,none⟩),.slice A1 (nA l) c1,.slice A2 (nB l) c2] w fun e w'=>e=.returned (.tuple #[])∧RowAt w' S B g (putsF f K (dynP l)) (K+bitsT (dynP l))∧KpB S w w'∧Below B w w':=by
 obtain⟨_,_,_,_,a1,a2,b1,b2,_⟩:=dyn_ok l hl
 obtain⟨hru,hrl⟩:=run_ok l hl
 obtain⟨hsq,hse⟩:=runD_sq l hl
 have hrf:∀r∈runD l,0≤r.1∧r.1≤18∧0≤r.2∧FitN (r.2.toNat,(bitV r.1).toNat):=fun r hr=>by
  obtain⟨x1,x2,x3,_⟩:=hru r hr
  exact⟨x1,x2,x3,runX_fit hl hr⟩
 have hrc:=lnR_check l hl
 have hR15:∀i,lnR l i≤7:=(lenM_may (c:=cntR (runD l)) (n:=19) (most:=7) (by omega) (by omega) (by omega) (by decide) (fun i=>by have:=cntR_le (runD l) i;omega)).1
 have r1:=cutN_ge (rowR l) 4 19
 have r2:=cutN_le (rowR l) 4 19 (by omega)
 have hdp:dynP l=[(nA l-257,5),(nB l-1,5),(nR l-4,4)]++((List.range (nR l)).map fun i=>(rowR l i,3))++(runD l).flatMap (runP (lnR l)):=rfl
 have hnR:nR l=cutN (fun i=>lnR l (ordN i)) 4 19:=rfl
 have hlR:lnR l=lenM (cntR (runD l)) 19 7:=rfl
 have hall:cat (lnA l) (nA l) (lnB l)=allF l:=rfl
 have hrR:∀i,rowR l i=lnR l (ordN i):=fun _=>rfl
 have hAlt:∀j,lnA l j<256:=h1.1.1
 have hBlt:∀j,lnB l j<256:=h2.1.1
 obtain⟨nl,hnl⟩:∃n,n=nA l:=⟨_,rfl⟩
 obtain⟨nd,hnd⟩:∃n,n=nB l:=⟨_,rfl⟩
 obtain⟨nr,hnr⟩:∃n,n=nR l:=⟨_,rfl⟩
 obtain⟨FA,hFA⟩:∃F,F=lnA l:=⟨_,rfl⟩
 obtain⟨FB,hFB⟩:∃F,F=lnB l:=⟨_,rfl⟩
 obtain⟨FR,hFR⟩:∃F,F=lnR l:=⟨_,rfl⟩
 obtain⟨RR,hRR⟩:∃F,F=rowR l:=⟨_,rfl⟩
 obtain⟨al,hal⟩:∃F,F=allF l:=⟨_,rfl⟩
 obtain⟨rl,hrle⟩:∃r,r=runD l:=⟨_,rfl⟩
 obtain⟨P,hP⟩:∃P,P=dynP l:=⟨_,rfl⟩
 rw[←hnl]at a1 a2 h1 hsq hse hdp hall⊢
 rw[←hnd]at b1 b2 h2 hsq hse hdp⊢
 rw[←hFA]at h1 hall hAlt
 rw[←hFB]at h2 hall hBlt
 rw[←hal]at hsq hse hall
 rw[←hrle]at hsq hrf hrl hlR hdp
 rw[←hFR]at hrc hR15 hlR hdp hrR hnR
 rw[←hRR]at hdp hrR
 rw[←hnr]at hdp hnR
 rw[←hP]at hdp hk⊢
 rw[show cutN (rowR l) 4 19=nR l from rfl,←hnr]at r1 r2
 clear hru hnl hnd hnr hFA hFB hFR hRR hal hrle hP
 obtain⟨W1,hW1⟩:∃W,W=w.alloc (.cells #[.slice A1 nl c1,.slice A2 nd c2] 22):=⟨_,rfl⟩
 have bw1:Below w.heap.size w W1:=by rw[hW1];exact(Below.refl _ _).alloc (Nat.le_refl _) _
 have hnew:W1.heap[w.heap.size]?=some (.cells #[.slice A1 nl c1,.slice A2 nd c2] 22 (0,0)):=by rw[hW1];exact heap_alloc_new w _
 have hrows:RowsB W1 W1.heap.size (some ⟨w.heap.size,0,none⟩) 2 (twoN nl nd) (twoF FA FB):=fun _=>by
  refine⟨w.heap.size,0,rfl,(Array.getElem?_eq_some_iff.1 hnew).1,fun i hi=>?_⟩
  rcases i with _|_|i
  ·exact⟨A1,c1,(cell_of_row W1 _ 0 _ _ (0,0) hnew).trans rfl,(h1.1.below bw1 (Nat.le_refl _)).more bw1.size,h1.2.1⟩
  ·exact⟨A2,c2,(cell_of_row W1 _ 1 _ _ (0,0) hnew).trans rfl,(h2.1.below bw1 (Nat.le_refl _)).more bw1.size,h2.2.1⟩
  ·omega
 obtain⟨e1,e2⟩:=two_cat FA FB nl nd
 have hcon:=concatu_any W1 (some ⟨w.heap.size,0,none⟩) 2 2 (twoN nl nd) (twoF FA FB) (fun i j=>by unfold twoF;split;exact hAlt j;exact hBlt j) hrows (by omega) (by rw[e1];omega)
 rw[e1,e2,hall]at hcon
 have hal8:∀j,al j<256:=fun j=>by rw[←hall];exact cat_lt hAlt hBlt j
 have H:=Lib.hid h;have HCON:=Lib.hid hcon;have HW1:=Lib.hid hW1;have BW1:=Lib.hid bw1;have HAL8:=Lib.hid hal8;have HSQ:=Lib.hid hsq;have HSE:=Lib.hid hse;have HRF:=Lib.hid hrf;have HRC:=Lib.hid hrc;have HR15:=Lib.hid hR15;have HDP:=Lib.hid hdp;have HNR:=Lib.hid hnR;have HLR:=Lib.hid hlR;have HRR:=Lib.hid hrR;have HK:=Lib.hid hk
 clear h hcon hW1 bw1 hnew hrows e1 e2 hal8 hsq hse hrf hrc hR15 hdp hnR hlR hrR hk hall hAlt hBlt h1 h2
 have hmf:∀(fn:Fn) (first cap:Array Value) (w:World),(Instr.makeFunc fn first cap).run Tryz.prog w=.ok (.func fn first cap) w:=fun _ _ _ _=>rfl
 go_enter Tryz.func89,Tryz.ntmps89
 go_wp2_with (first|rw[←HW1.out]|fail)
 refine HCON.out.mono ?_
 rintro e w1 ⟨Ac,cc,rfl,hoc,hb1⟩
 have BW2:=Lib.hid (BW1.out.trans (hb1.mono BW1.out.size))
 have hsqc:=sq10_new w1 Ac (nl+nd) cc al (ByR.of_own hoc HAL8.out)
 rw[HSQ.out,HSE.out]at hsqc
 have HSQC:=Lib.hid hsqc
 clear hoc hb1 hsqc HCON BW1
 go_wp2_with fail
 refine HSQC.out.mono ?_
 rintro e w2 ⟨Au,nu,cu,rfl,hru,hb2,hun⟩
 obtain⟨hnu,hru2,_⟩:=hru
 have BW3:=Lib.hid (BW2.out.trans (hb2.mono BW2.out.size))
 have hsh:=shortest_any w2 Au nu cu rl hnu hru2 (by omega) (fun r hr=>⟨(HRF.out r hr).1,(HRF.out r hr).2.1⟩)
 rw[←HLR.out]at hsh
 have HSH:=Lib.hid hsh;have HRU:=Lib.hid hru2;have HNU:=Lib.hid hnu;have HUN:Hid (∀b o,Au=some ⟨b,o,none⟩→w.heap.size≤b):=Lib.hid fun b o e=>Nat.le_trans BW2.out.size (hun b o e)
 have hnub:nu≤1000:=by omega
 clear hsh hru2 hb2 hun HSQC BW2 hnu
 go_wp2_with fail
 refine HSH.out.mono ?_
 rintro e w3 ⟨As,cs,rfl,hrs,hs19,hs1000,_,hsn,hb3⟩
 have BW4:=Lib.hid (BW3.out.trans (hb3.mono BW3.out.size))
 have HRU3:=Lib.hid ((HRU.out.below hb3 (Nat.le_refl _)).more hb3.size)
 have hor:=ordered_any w3 As cs FR hrs
 rw[←HNR.out]at hor
 have HOR:=Lib.hid hor;have HRS:=Lib.hid hrs;have HSN:Hid (∀b o,As=some ⟨b,o,none⟩→w.heap.size≤b):=Lib.hid fun b o e=>Nat.le_trans BW3.out.size (hsn b o e)
 clear hor hrs hsn hb3 HSH HRU BW3
 go_wp2_with fail
 refine HOR.out.mono ?_
 rintro e w4 ⟨rfl,hra4,hb4⟩
 have bw5:=BW4.out.trans (hb4.mono BW4.out.size)
 have hw34:=BW4.out.size
 obtain⟨S4,hS4⟩:∃S':Nat→Prop,S'=fun j=>S j∨(w.heap.size≤j∧j<w4.heap.size):=⟨_,rfl⟩
 have hrow4:RowAt w4 S4 B g f K:=by rw[hS4];exact H.out.grow bw5
 have hSS:∀j,S j→S4 j:=fun j hj=>by rw[hS4];exact .inl hj
 have hSn:∀j,w.heap.size≤j→j<w4.heap.size→S4 j:=fun j a b=>by rw[hS4];exact .inr ⟨a,b⟩
 have hru4:=(HRU3.out.below hb4 (Nat.le_refl _)).more hb4.size
 have hrs4:=(HRS.out.below hb4 (Nat.le_refl _)).more hb4.size
 have hIU:InS S4 Au nu:=fun b o h0 e=>by
  obtain⟨b',o',e',hlt,_⟩:=hru4.at (k:=0) (by have:=HNU.out;omega)
  rw[e]at e'
  injection e' with e'
  injection e' with e1
  exact hSn b (HUN.out b o e) (by omega)
 have hIS:InS S4 As 19:=fun b o h0 e=>by
  obtain⟨b',o',e',hlt,_⟩:=hrs4.2 h0
  rw[e]at e'
  injection e' with e'
  injection e' with e1
  exact hSn b (HSN.out b o e) (by omega)
 have hI3:S4 w3.heap.size:=hSn _ hw34 hra4.lt
 have hk4:KpB S w w4:=KpB.below H.out.top bw5
 have hB4:Below B w w4:=bw5.mono H.out.size
 have HROW4:=Lib.hid hrow4;have HSS:=Lib.hid hSS;have HRU4:=Lib.hid hru4;have HRS4:=Lib.hid hrs4;have HIU:=Lib.hid hIU;have HIS:=Lib.hid hIS;have HI3:=Lib.hid hI3;have HK4:=Lib.hid hk4;have HB4:=Lib.hid hB4;have HRA4:=Lib.hid hra4
 clear hrow4 hSS hSn hru4 hrs4 hIU hIS hI3 hk4 hB4 hra4 hS4 bw5 hb4 HOR HRU3 HRS BW4 HUN HSN hw34
 obtain⟨xa,hxa⟩:∃x,x=nl-257:=⟨_,rfl⟩
 obtain⟨xb,hxb⟩:∃x,x=nd-1:=⟨_,rfl⟩
 obtain⟨xr,hxr⟩:∃x,x=nr-4:=⟨_,rfl⟩
 have hdp:=HDP.out
 rw[←hxa,←hxb,←hxr]at hdp
 have eA:(nl:Int)-257=(xa:Int):=by omega
 have eB:(nd:Int)-1=(xb:Int):=by omega
 have eR:(nr:Int)-4=(xr:Int):=by omega
 have lA:xa≤29:=by omega
 have lB:xb≤29:=by omega
 have lR:xr≤15:=by omega
 have hbt0:bitsT [(xa,5),(xb,5),(xr,4)]=14:=by simp[bitsT]
 have hPb:K+14+bitsT ((List.range nr).map fun i=>(RR i,3))+bitsT (rl.flatMap (runP FR))=K+bitsT P:=by
  rw[hdp,bitsT_app,bitsT_app,hbt0];omega
 have hPf:putsF (putsF (putsF f K [(xa,5),(xb,5),(xr,4)]) (K+14) ((List.range nr).map fun i=>(RR i,3))) (K+14+bitsT ((List.range nr).map fun i=>(RR i,3))) (rl.flatMap (runP FR))=putsF f K P:=by
  rw[hdp,putsF_app,putsF_app,bitsT_app,hbt0,Nat.add_assoc]
 obtain⟨Q,hQ⟩:∃Q,Q=putsF f K [(xa,5),(xb,5),(xr,4)]:=⟨_,rfl⟩
 have hput:=put_lit w4 S4 B g f K [(xa,5),(xb,5),(xr,4)] 3 rfl #[.int .u32 (xa:Int),.int .i64 5,.int .u32 (xb:Int),.int .i64 5,.int .u32 (xr:Int),.int .i64 4] rfl HROW4.out (by omega) (fun z hz=>by
  simp only[List.mem_cons,List.not_mem_nil,or_false]at hz
  rcases hz with rfl|rfl|rfl
  ·exact fit_mk (by omega) (by omega)
  ·exact fit_mk (by omega) (by omega)
  ·exact fit_mk (by omega) (by omega)) (by rw[hbt0];have:=HK.out;omega)
 rw[hbt0,←hQ]at hput
 rw[←hQ]at hPf
 have HPUT:=Lib.hid hput;have HPB:=Lib.hid hPb;have HPF:=Lib.hid hPf
 clear hput hPb hPf hQ hbt0 hdp hxa hxb hxr HDP
 go_wp2_with (first
  |(refine wpList_buildTo rfl 146 #[(0,.tmp 28),(1,.const (.int .i64 5))] rfl (some 29) rfl #[.int .u32 (xa:Int),.int .i64 5] ?_ ?_;focus(simpa[Act.eval]using built_numP (xa:Int) 5))
  |(refine wpList_buildTo rfl 146 #[(0,.tmp 33),(1,.const (.int .i64 5))] rfl (some 34) rfl #[.int .u32 (xb:Int),.int .i64 5] ?_ ?_;focus(simpa[Act.eval]using built_numP (xb:Int) 5))
  |(refine wpList_buildTo rfl 146 #[(0,.tmp 38),(1,.const (.int .i64 4))] rfl (some 39) rfl #[.int .u32 (xr:Int),.int .i64 4] ?_ ?_;focus(simpa[Act.eval]using built_numP (xr:Int) 4))
  |fail)
 refine HPUT.out.mono ?_
 rintro e w5 ⟨rfl,h1,h2,h3⟩
 have HROW5:=Lib.hid h1;have HK5:=Lib.hid h2;have HB5:=Lib.hid h3
 clear h1 h2 h3 HPUT eA eB eR
 obtain⟨h,hh⟩:∃h,h=w3.heap.size:=⟨_,rfl⟩
 rw[←hh]at HI3 HRA4⊢
 have HH:=Lib.hid hh
 clear hh
 go_wp2_with fail
 go_loopw [44] (fun iv wr=>∃i:Nat,i≤nr∧iv=.int .i64 (i:Int)∧Hid (RowAt wr S4 B g (putsF Q (K+14) ((List.range i).map fun i=>(RR i,3))) (K+14+bitsT ((List.range i).map fun i=>(RR i,3))))∧Hid (KpB S4 w4 wr)∧Hid (Below B w4 wr)) (fun iv _=>nr-(intOf iv).toNat)
 case atStart=>exact⟨0,Nat.zero_le _,rfl,HROW5,HK5,HB5⟩
 case round=>
  obtain⟨i,hi,rfl,HRA,HKP,HB⟩:=hrel
  by_cases hlt:i<nr
  ·have hlti:(i:Int)<(nr:Int):=by omega
   have k1:=(HKP.out.cell (p:=⟨h,i,none⟩) HI3.out).trans (HRA4.out.cell (j:=i) (by omega))
   rw[←HRR.out i]at k1
   have hx7:RR i≤7:=by rw[HRR.out];exact HR15.out _
   obtain⟨x,hx⟩:∃x,x=RR i:=⟨_,rfl⟩
   rw[←hx]at k1 hx7
   have hst:((List.range (i+1)).map fun i=>(RR i,3))=((List.range i).map fun i=>(RR i,3))++[(x,3)]:=by rw[List.range_succ,List.map_append,hx];rfl
   have hbl:bitsT ((List.range (i+1)).map fun i=>(RR i,3))≤bitsT ((List.range nr).map fun i=>(RR i,3)):=by
    have e:((List.range nr).map fun i=>(RR i,3))=((List.range nr).map fun i=>(RR i,3)).take (i+1)++((List.range nr).map fun i=>(RR i,3)).drop (i+1):=(List.take_append_drop _ _).symm
    rw[e,bitsT_app,←List.map_take,List.take_range,Nat.min_eq_left (by omega)];omega
   have hput:=put_lit wr S4 B g _ _ [(x,3)] 1 rfl #[.int .u32 (x:Int),.int .i64 3] rfl HRA.out (by omega) (fun z hz=>by
    simp only[List.mem_singleton]at hz;rw[hz];exact fit_mk (by omega) (by omega)) (by
    have e:=congrArg bitsT hst
    rw[bitsT_app]at e
    have:=HK.out;have:=HPB.out;omega)
   have eb:K+14+bitsT ((List.range i).map fun i=>(RR i,3))+bitsT [(x,3)]=K+14+bitsT ((List.range (i+1)).map fun i=>(RR i,3)):=by rw[hst,bitsT_app];omega
   have ef:putsF (putsF Q (K+14) ((List.range i).map fun i=>(RR i,3))) (K+14+bitsT ((List.range i).map fun i=>(RR i,3))) [(x,3)]=putsF Q (K+14) ((List.range (i+1)).map fun i=>(RR i,3)):=by rw[hst,putsF_app]
   rw[eb,ef]at hput
   have HPUT:=Lib.hid hput
   clear hput hst hbl hx eb ef
   go_wp2_with (first
    |(refine wpList_buildTo rfl 146 #[(0,.tmp 50),(1,.const (.int .i64 3))] rfl (some 51) rfl #[.int .u32 (x:Int),.int .i64 3] ?_ ?_;focus(simpa[Act.eval]using built_numP (x:Int) 3))
    |fail)
   refine HPUT.out.mono ?_
   rintro e w6 ⟨rfl,h1,h2,h3⟩
   have H1:=Lib.hid h1;have H2:=Lib.hid (HKP.out.tr h2);have H3:=Lib.hid (HB.out.trans h3)
   clear h1 h2 h3
   go_wp2
   go_roundw
   case rel=>exact⟨i+1,by omega,by go_num,H1,H2,H3⟩
   case measure=>simp[intOf];omega
  ·obtain rfl:i=nr:=by omega
   have hlti:¬(i:Int)<(i:Int):=by omega
   have hsz:w4.heap.size≤wr.heap.size:=HB.out.size
   have hrs:=HRS4.out.keepS HKP.out HIS.out hsz
   have hru:=HRU4.out.keepS HKP.out HNU.out HIU.out hsz
   have hcd:=codes11_any wr As 19 cs FR hrs (by omega) (by omega) HRC.out
   have HCD:=Lib.hid hcd;have HRUX:=Lib.hid hru
   clear hcd hru hrs
   go_wp2_with fail
   refine HCD.out.mono ?_
   rintro e w7 ⟨gk,ck,rfl,hgk,hrc7,hb7⟩
   obtain⟨S7,hS7⟩:∃S':Nat→Prop,S'=fun j=>S4 j∨(wr.heap.size≤j∧j<w7.heap.size):=⟨_,rfl⟩
   have hrow7:RowAt w7 S7 B g (putsF Q (K+14) ((List.range i).map fun i=>(RR i,3))) (K+14+bitsT ((List.range i).map fun i=>(RR i,3))):=by rw[hS7];exact HRA.out.grow hb7
   have hSS7:∀j,S4 j→S7 j:=fun j hj=>by rw[hS7];exact .inl hj
   have hSk:S7 gk:=by rw[hS7];exact .inr ⟨hgk,hrc7.lt⟩
   have hrun:=runs11_any w7 S7 B g _ _ Au nu cu rl FR gk ck hrow7 HNU.out ((HRUX.out.below hb7 (Nat.le_refl _)).more hb7.size) (fun b o h0 e=>hSS7 b (HIU.out b o h0 e)) hnub hrc7 hSk HRC.out HRF.out (by have:=HK.out;have:=HPB.out;omega)
   rw[HPB.out,HPF.out]at hrun
   have HRUN:=Lib.hid hrun;have HSS7:=Lib.hid hSS7
   have HK7:=Lib.hid (HK4.out.tr ((HKP.out.tr (KpB.below HRA.out.top hb7)).less HSS.out));have HB7:=Lib.hid (HB4.out.trans (HB.out.trans (hb7.mono HRA.out.size)))
   clear hrun hSS7 hSk hrow7 hS7 hrc7 hb7 hgk
   go_wp2_with fail
   refine HRUN.out.mono ?_
   rintro e w8 ⟨rfl,h1,h2,h3⟩
   have H1:=Lib.hid (h1.less fun j hj=>HSS7.out j (HSS.out j hj));have H2:=Lib.hid (HK7.out.tr (h2.less fun j hj=>HSS7.out j (HSS.out j hj)));have H3:=Lib.hid (HB7.out.trans h3)
   clear h1 h2 h3
   go_wp2
   go_end0
   exact⟨rfl,H1.out,H2.out,H3.out⟩
end Go.Proofs.YtgokdgcmkcmjeaaGreat
