/-
  Words and walks.
-/
import Derived.Test.YtokpcpjnihinfaaGreatpnar
set_option maxRecDepth 100000
set_option maxHeartbeats 16000000
namespace Go.Proofs.YtokpcpjnihinfaaGreat
open Go.RowKit Go.ChangeShapes Go.WideShapes Go.ChangeAt Go.Joins
theorem RdB.keepS{S:Nat→Prop}{w w':World}{B n:Nat}{A:Option Addr}{f:Nat→Nat}(h:RdB w B A n f)(hk:KpB S w w')(hS:InS S A n)(hB:B≤w'.heap.size):RdB w' w'.heap.size A n f:=⟨h.1,fun h0=>by
 obtain⟨b,o,rfl,hb,hc⟩:=h.2 h0
 exact⟨b,o,rfl,by omega,fun j hj=>(hk.cell (p:=⟨b,o+j,none⟩) (hS b o h0 rfl)).trans (hc j hj)⟩⟩
theorem RdU.keepS{S:Nat→Prop}{w w':World}{B n:Nat}{A:Option Addr}{l:List (Int×Int)}(h:RdU w B A l)(hk:KpB S w w')(hn:n=l.length)(hS:InS S A n)(hB:B≤w'.heap.size):RdU w' w'.heap.size A l:=⟨h.1,fun h0=>by
 obtain⟨b,o,rfl,hb,hc⟩:=h.2 h0
 exact⟨b,o,rfl,by omega,fun j u hu=>(hk.cell (p:=⟨b,o+j,none⟩) (hS b o (by omega) rfl)).trans (hc j u hu)⟩⟩
def twoN(a b:Nat):Nat→Nat
 |0=>a
 |_=>b
def twoF(f g:Nat→Nat):Nat→Nat→Nat
 |0=>f
 |_=>g
theorem two_cat(f g:Nat→Nat)(a b:Nat):sumU (twoN a b) 2=a+b∧catU (twoN a b) (twoF f g) 2=cat f a g:=by
 refine⟨by simp[sumU,twoN],?_⟩
 funext j
 show cat (cat (fun _=>0) 0 f) (0+a) g j=cat f a g j
 unfold cat
 rw[Nat.zero_add]
 by_cases h:j<a
 ·rw[if_pos h,if_pos h,if_neg (by omega),Nat.sub_zero]
 ·rw[if_neg h,if_neg h]
theorem runD_sq(l:List Tok)(hl:l.length≤1000000):sqV (allF l) (nA l+nB l)=runD l∧sqE (allF l) (nA l+nB l)=0:=by
 obtain⟨_,_,_,_,_,a2,_,b2,_⟩:=dyn_ok l hl
 have h:sqE (allF l) (nA l+nB l)=0:=by unfold sqE;rw[if_neg (by omega),if_pos (fun i _=>all_le l hl i)]
 exact⟨by unfold sqV;rw[if_pos h];rfl,h⟩
theorem table11_any(w:World)(S:Nat→Prop)(B g:Nat)(f:Nat→Nat)(K:Nat)(A1:Option Addr)(c1:Nat)(A2:Option Addr)(c2:Nat)(l:List Tok)(h:RowAt w S B g f K)(hl:l.length≤1000000)
  (h1:ByR w w.heap.size A1 (nA l) c1 (lnA l)) (h2:ByR w w.heap.size A2 (nB l) c2 (lnB l)) (hk:K+bitsT (dynP l)≤16000000):
  Calls Tryz.prog 109 #[.pointer (some ⟨g,0,none⟩),.slice A1 (nA l) c1,.slice A2 (nB l) c2] w fun e w'=>e=.returned (.tuple #[])∧RowAt w' S B g (putsF f K (dynP l)) (K+bitsT (dynP l))∧KpB S w w'∧Below B w w':=by
 obtain⟨_,_,_,_,a1,a2,b1,b2,_⟩:=dyn_ok l hl
 obtain⟨hru,hrl⟩:=run_ok l hl
 obtain⟨hsq,hse⟩:=runD_sq l hl
 have hrf:∀r∈runD l,0≤r.1∧r.1≤18∧0≤r.2∧FitN (r.2.toNat,(bitV r.1).toNat):=fun r hr=>by
  obtain⟨x1,x2,x3,_⟩:=hru r hr
  exact⟨x1,x2,x3,runX_fit hl hr⟩
 have hrc:=lnR_check l hl
 have hR15:∀i,lnR l i≤7:=(lenM_may (c:=cntR (runD l)) (n:=19) (most:=7) (by omega) (by omega) (by omega) (by decide) (fun i=>by have:=cntR_le (runD l) i;omega)).1
 have r1:=cutN_ge (rowR l) 4 19
 have r2:=cutN_le (rowR l) 4 19 (by omega)
 have hdp:dynP l=[(nA l-257,5),(nB l-1,5),(nR l-4,4)]++((List.range (nR l)).map fun i=>(rowR l i,3))++(runD l).flatMap (runP (lnR l)):=rfl
 have hnR:nR l=cutN (fun i=>lnR l (ordN i)) 4 19:=rfl
 have hlR:lnR l=lenM (cntR (runD l)) 19 7:=rfl
 have hall:cat (lnA l) (nA l) (lnB l)=allF l:=rfl
 have hrR:∀i,rowR l i=lnR l (ordN i):=fun _=>rfl
 have hAlt:∀j,lnA l j<256:=h1.1.1
 have hBlt:∀j,lnB l j<256:=h2.1.1
 obtain⟨nl,hnl⟩:∃n,n=nA l:=⟨_,rfl⟩
 obtain⟨nd,hnd⟩:∃n,n=nB l:=⟨_,rfl⟩
 obtain⟨nr,hnr⟩:∃n,n=nR l:=⟨_,rfl⟩
 obtain⟨FA,hFA⟩:∃F,F=lnA l:=⟨_,rfl⟩
 obtain⟨FB,hFB⟩:∃F,F=lnB l:=⟨_,rfl⟩
 obtain⟨FR,hFR⟩:∃F,F=lnR l:=⟨_,rfl⟩
 obtain⟨RR,hRR⟩:∃F,F=rowR l:=⟨_,rfl⟩
 obtain⟨al,hal⟩:∃F,F=allF l:=⟨_,rfl⟩
 obtain⟨rl,hrle⟩:∃r,r=runD l:=⟨_,rfl⟩
 obtain⟨P,hP⟩:∃P,P=dynP l:=⟨_,rfl⟩
 rw[←hnl]at a1 a2 h1 hsq hse hdp hall⊢
 rw[←hnd]at b1 b2 h2 hsq hse hdp⊢
 rw[←hFA]at h1 hall hAlt
 rw[←hFB]at h2 hall hBlt
 rw[←hal]at hsq hse hall
 rw[←hrle]at hsq hrf hrl hlR hdp
 rw[←hFR]at hrc hR15 hlR hdp hrR hnR
 rw[←hRR]at hdp hrR
 rw[←hnr]at hdp hnR
 rw[←hP]at hdp hk⊢
 rw[show cutN (rowR l) 4 19=nR l from rfl,←hnr]at r1 r2
 clear hru hnl hnd hnr hFA hFB hFR hRR hal hrle hP
 obtain⟨W1,hW1⟩:∃W,W=w.alloc (.cells #[.slice A1 nl c1,.slice A2 nd c2] 22):=⟨_,rfl⟩
 have bw1:Below w.heap.size w W1:=by rw[hW1];exact(Below.refl _ _).alloc (Nat.le_refl _) _
 have hnew:W1.heap[w.heap.size]?=some (.cells #[.slice A1 nl c1,.slice A2 nd c2] 22 (0,0)):=by rw[hW1];exact heap_alloc_new w _
 have hrows:RowsB W1 W1.heap.size (some ⟨w.heap.size,0,none⟩) 2 (twoN nl nd) (twoF FA FB):=fun _=>by
  refine⟨w.heap.size,0,rfl,(Array.getElem?_eq_some_iff.1 hnew).1,fun i hi=>?_⟩
  rcases i with _|_|i
  ·exact⟨A1,c1,(cell_of_row W1 _ 0 _ _ (0,0) hnew).trans rfl,(h1.1.below bw1 (Nat.le_refl _)).more bw1.size,h1.2.1⟩
  ·exact⟨A2,c2,(cell_of_row W1 _ 1 _ _ (0,0) hnew).trans rfl,(h2.1.below bw1 (Nat.le_refl _)).more bw1.size,h2.2.1⟩
  ·omega
 obtain⟨e1,e2⟩:=two_cat FA FB nl nd
 have hcon:=concatu_any W1 (some ⟨w.heap.size,0,none⟩) 2 2 (twoN nl nd) (twoF FA FB) (fun i j=>by unfold twoF;split;exact hAlt j;exact hBlt j) hrows (by omega) (by rw[e1];omega)
 rw[e1,e2,hall]at hcon
 have hal8:∀j,al j<256:=fun j=>by rw[←hall];exact cat_lt hAlt hBlt j
 have H:=Lib.hid h;have HCON:=Lib.hid hcon;have HW1:=Lib.hid hW1;have BW1:=Lib.hid bw1;have HAL8:=Lib.hid hal8;have HSQ:=Lib.hid hsq;have HSE:=Lib.hid hse;have HRF:=Lib.hid hrf;have HRC:=Lib.hid hrc;have HR15:=Lib.hid hR15;have HDP:=Lib.hid hdp;have HNR:=Lib.hid hnR;have HLR:=Lib.hid hlR;have HRR:=Lib.hid hrR;have HK:=Lib.hid hk
 clear h hcon hW1 bw1 hnew hrows e1 e2 hal8 hsq hse hrf hrc hR15 hdp hnR hlR hrR hk hall hAlt hBlt h1 h2
 have hmf:∀(fn:Fn) (first cap:Array Value) (w:World),(Instr.makeFunc fn first cap).run Tryz.prog w=.ok (.func fn first cap) w:=fun _ _ _ _=>rfl
 go_enter Tryz.func109,Tryz.ntmps109
 go_wp2_with (first|rw[←HW1.out]|fail)
 refine HCON.out.mono ?_
 rintro e w1 ⟨Ac,cc,rfl,hoc,hb1⟩
 have BW2:=Lib.hid (BW1.out.trans (hb1.mono BW1.out.size))
 have hsqc:=sq10_new w1 Ac (nl+nd) cc al (ByR.of_own hoc HAL8.out)
 rw[HSQ.out,HSE.out]at hsqc
 have HSQC:=Lib.hid hsqc
 clear hoc hb1 hsqc HCON BW1
 go_wp2_with fail
 refine HSQC.out.mono ?_
 rintro e w2 ⟨Au,nu,cu,rfl,hru,hb2,hun⟩
 obtain⟨hnu,hru2,_⟩:=hru
 have BW3:=Lib.hid (BW2.out.trans (hb2.mono BW2.out.size))
 have hsh:=shortest_any w2 Au nu cu rl hnu hru2 (by omega) (fun r hr=>⟨(HRF.out r hr).1,(HRF.out r hr).2.1⟩)
 rw[←HLR.out]at hsh
 have HSH:=Lib.hid hsh;have HRU:=Lib.hid hru2;have HNU:=Lib.hid hnu;have HUN:Hid (∀b o,Au=some ⟨b,o,none⟩→w.heap.size≤b):=Lib.hid fun b o e=>Nat.le_trans BW2.out.size (hun b o e)
 have hnub:nu≤1000:=by omega
 clear hsh hru2 hb2 hun HSQC BW2 hnu
 go_wp2_with fail
 refine HSH.out.mono ?_
 rintro e w3 ⟨As,cs,rfl,hrs,hs19,hs1000,_,hsn,hb3⟩
 have BW4:=Lib.hid (BW3.out.trans (hb3.mono BW3.out.size))
 have HRU3:=Lib.hid ((HRU.out.below hb3 (Nat.le_refl _)).more hb3.size)
 have hor:=ordered_any w3 As cs FR hrs
 rw[←HNR.out]at hor
 have HOR:=Lib.hid hor;have HRS:=Lib.hid hrs;have HSN:Hid (∀b o,As=some ⟨b,o,none⟩→w.heap.size≤b):=Lib.hid fun b o e=>Nat.le_trans BW3.out.size (hsn b o e)
 clear hor hrs hsn hb3 HSH HRU BW3
 go_wp2_with fail
 refine HOR.out.mono ?_
 rintro e w4 ⟨rfl,hra4,hb4⟩
 have bw5:=BW4.out.trans (hb4.mono BW4.out.size)
 have hw34:=BW4.out.size
 obtain⟨S4,hS4⟩:∃S':Nat→Prop,S'=fun j=>S j∨(w.heap.size≤j∧j<w4.heap.size):=⟨_,rfl⟩
 have hrow4:RowAt w4 S4 B g f K:=by rw[hS4];exact H.out.grow bw5
 have hSS:∀j,S j→S4 j:=fun j hj=>by rw[hS4];exact .inl hj
 have hSn:∀j,w.heap.size≤j→j<w4.heap.size→S4 j:=fun j a b=>by rw[hS4];exact .inr ⟨a,b⟩
 have hru4:=(HRU3.out.below hb4 (Nat.le_refl _)).more hb4.size
 have hrs4:=(HRS.out.below hb4 (Nat.le_refl _)).more hb4.size
 have hIU:InS S4 Au nu:=fun b o h0 e=>by
  obtain⟨b',o',e',hlt,_⟩:=hru4.at (k:=0) (by have:=HNU.out;omega)
  rw[e]at e'
  injection e' with e'
  injection e' with e1
  exact hSn b (HUN.out b o e) (by omega)
 have hIS:InS S4 As 19:=fun b o h0 e=>by
  obtain⟨b',o',e',hlt,_⟩:=hrs4.2 h0
  rw[e]at e'
  injection e' with e'
  injection e' with e1
  exact hSn b (HSN.out b o e) (by omega)
 have hI3:S4 w3.heap.size:=hSn _ hw34 hra4.lt
 have hk4:KpB S w w4:=KpB.below H.out.top bw5
 have hB4:Below B w w4:=bw5.mono H.out.size
 have HROW4:=Lib.hid hrow4;have HSS:=Lib.hid hSS;have HRU4:=Lib.hid hru4;have HRS4:=Lib.hid hrs4;have HIU:=Lib.hid hIU;have HIS:=Lib.hid hIS;have HI3:=Lib.hid hI3;have HK4:=Lib.hid hk4;have HB4:=Lib.hid hB4;have HRA4:=Lib.hid hra4
 clear hrow4 hSS hSn hru4 hrs4 hIU hIS hI3 hk4 hB4 hra4 hS4 bw5 hb4 HOR HRU3 HRS BW4 HUN HSN hw34
 obtain⟨xa,hxa⟩:∃x,x=nl-257:=⟨_,rfl⟩
 obtain⟨xb,hxb⟩:∃x,x=nd-1:=⟨_,rfl⟩
 obtain⟨xr,hxr⟩:∃x,x=nr-4:=⟨_,rfl⟩
 have hdp:=HDP.out
 rw[←hxa,←hxb,←hxr]at hdp
 have eA:(nl:Int)-257=(xa:Int):=by omega
 have eB:(nd:Int)-1=(xb:Int):=by omega
 have eR:(nr:Int)-4=(xr:Int):=by omega
 have lA:xa≤29:=by omega
 have lB:xb≤29:=by omega
 have lR:xr≤15:=by omega
 have hbt0:bitsT [(xa,5),(xb,5),(xr,4)]=14:=by simp[bitsT]
 have hPb:K+14+bitsT ((List.range nr).map fun i=>(RR i,3))+bitsT (rl.flatMap (runP FR))=K+bitsT P:=by
  rw[hdp,bitsT_app,bitsT_app,hbt0];omega
 have hPf:putsF (putsF (putsF f K [(xa,5),(xb,5),(xr,4)]) (K+14) ((List.range nr).map fun i=>(RR i,3))) (K+14+bitsT ((List.range nr).map fun i=>(RR i,3))) (rl.flatMap (runP FR))=putsF f K P:=by
  rw[hdp,putsF_app,putsF_app,bitsT_app,hbt0,Nat.add_assoc]
 obtain⟨Q,hQ⟩:∃Q,Q=putsF f K [(xa,5),(xb,5),(xr,4)]:=⟨_,rfl⟩
 have hput:=put_lit w4 S4 B g f K [(xa,5),(xb,5),(xr,4)] 3 rfl #[.int .u32 (xa:Int),.int .i64 5,.int .u32 (xb:Int),.int .i64 5,.int .u32 (xr:Int),.int .i64 4] rfl HROW4.out (by omega) (fun z hz=>by
  simp only[List.mem_cons,List.not_mem_nil,or_false]at hz
  rcases hz with rfl|rfl|rfl
  ·exact fit_mk (by omega) (by omega)
  ·exact fit_mk (by omega) (by omega)
  ·exact fit_mk (by omega) (by omega)) (by rw[hbt0];have:=HK.out;omega)
 rw[hbt0,←hQ]at hput
 rw[←hQ]at hPf
 have HPUT:=Lib.hid hput;have HPB:=Lib.hid hPb;have HPF:=Lib.hid hPf
 clear hput hPb hPf hQ hbt0 hdp hxa hxb hxr HDP
 go_wp2_with (first
  |(refine wpList_buildTo rfl 169 #[(0,.tmp 28),(1,.const (.int .i64 5))] rfl (some 29) rfl #[.int .u32 (xa:Int),.int .i64 5] ?_ ?_;focus(simpa[Act.eval]using built_numP (xa:Int) 5))
  |(refine wpList_buildTo rfl 169 #[(0,.tmp 33),(1,.const (.int .i64 5))] rfl (some 34) rfl #[.int .u32 (xb:Int),.int .i64 5] ?_ ?_;focus(simpa[Act.eval]using built_numP (xb:Int) 5))
  |(refine wpList_buildTo rfl 169 #[(0,.tmp 38),(1,.const (.int .i64 4))] rfl (some 39) rfl #[.int .u32 (xr:Int),.int .i64 4] ?_ ?_;focus(simpa[Act.eval]using built_numP (xr:Int) 4))
  |fail)
 refine HPUT.out.mono ?_
 rintro e w5 ⟨rfl,h1,h2,h3⟩
 have HROW5:=Lib.hid h1;have HK5:=Lib.hid h2;have HB5:=Lib.hid h3
 clear h1 h2 h3 HPUT eA eB eR
 obtain⟨h,hh⟩:∃h,h=w3.heap.size:=⟨_,rfl⟩
 rw[←hh]at HI3 HRA4⊢
 have HH:=Lib.hid hh
 clear hh
 go_wp2_with fail
 go_loopw [44] (fun iv wr=>∃i:Nat,i≤nr∧iv=.int .i64 (i:Int)∧Hid (RowAt wr S4 B g (putsF Q (K+14) ((List.range i).map fun i=>(RR i,3))) (K+14+bitsT ((List.range i).map fun i=>(RR i,3))))∧Hid (KpB S4 w4 wr)∧Hid (Below B w4 wr)) (fun iv _=>nr-(intOf iv).toNat)
 case atStart=>exact⟨0,Nat.zero_le _,rfl,HROW5,HK5,HB5⟩
 case round=>
  obtain⟨i,hi,rfl,HRA,HKP,HB⟩:=hrel
  by_cases hlt:i<nr
  ·have hlti:(i:Int)<(nr:Int):=by omega
   have k1:=(HKP.out.cell (p:=⟨h,i,none⟩) HI3.out).trans (HRA4.out.cell (j:=i) (by omega))
   rw[←HRR.out i]at k1
   have hx7:RR i≤7:=by rw[HRR.out];exact HR15.out _
   obtain⟨x,hx⟩:∃x,x=RR i:=⟨_,rfl⟩
   rw[←hx]at k1 hx7
   have hst:((List.range (i+1)).map fun i=>(RR i,3))=((List.range i).map fun i=>(RR i,3))++[(x,3)]:=by rw[List.range_succ,List.map_append,hx];rfl
   have hbl:bitsT ((List.range (i+1)).map fun i=>(RR i,3))≤bitsT ((List.range nr).map fun i=>(RR i,3)):=by
    have e:((List.range nr).map fun i=>(RR i,3))=((List.range nr).map fun i=>(RR i,3)).take (i+1)++((List.range nr).map fun i=>(RR i,3)).drop (i+1):=(List.take_append_drop _ _).symm
    rw[e,bitsT_app,←List.map_take,List.take_range,Nat.min_eq_left (by omega)];omega
   have hput:=put_lit wr S4 B g _ _ [(x,3)] 1 rfl #[.int .u32 (x:Int),.int .i64 3] rfl HRA.out (by omega) (fun z hz=>by
    simp only[List.mem_singleton]at hz;rw[hz];exact fit_mk (by omega) (by omega)) (by
    have e:=congrArg bitsT hst
    rw[bitsT_app]at e
    have:=HK.out;have:=HPB.out;omega)
   have eb:K+14+bitsT ((List.range i).map fun i=>(RR i,3))+bitsT [(x,3)]=K+14+bitsT ((List.range (i+1)).map fun i=>(RR i,3)):=by rw[hst,bitsT_app];omega
   have ef:putsF (putsF Q (K+14) ((List.range i).map fun i=>(RR i,3))) (K+14+bitsT ((List.range i).map fun i=>(RR i,3))) [(x,3)]=putsF Q (K+14) ((List.range (i+1)).map fun i=>(RR i,3)):=by rw[hst,putsF_app]
   rw[eb,ef]at hput
   have HPUT:=Lib.hid hput
   clear hput hst hbl hx eb ef
   go_wp2_with (first
    |(refine wpList_buildTo rfl 169 #[(0,.tmp 50),(1,.const (.int .i64 3))] rfl (some 51) rfl #[.int .u32 (x:Int),.int .i64 3] ?_ ?_;focus(simpa[Act.eval]using built_numP (x:Int) 3))
    |fail)
   refine HPUT.out.mono ?_
   rintro e w6 ⟨rfl,h1,h2,h3⟩
   have H1:=Lib.hid h1;have H2:=Lib.hid (HKP.out.tr h2);have H3:=Lib.hid (HB.out.trans h3)
   clear h1 h2 h3
   go_wp2
   go_roundw
   case rel=>exact⟨i+1,by omega,by go_num,H1,H2,H3⟩
   case measure=>simp[intOf];omega
  ·obtain rfl:i=nr:=by omega
   have hlti:¬(i:Int)<(i:Int):=by omega
   have hsz:w4.heap.size≤wr.heap.size:=HB.out.size
   have hrs:=HRS4.out.keepS HKP.out HIS.out hsz
   have hru:=HRU4.out.keepS HKP.out HNU.out HIU.out hsz
   have hcd:=codes11_any wr As 19 cs FR hrs (by omega) (by omega) HRC.out
   have HCD:=Lib.hid hcd;have HRUX:=Lib.hid hru
   clear hcd hru hrs
   go_wp2_with fail
   refine HCD.out.mono ?_
   rintro e w7 ⟨gk,ck,rfl,hgk,hrc7,hb7⟩
   obtain⟨S7,hS7⟩:∃S':Nat→Prop,S'=fun j=>S4 j∨(wr.heap.size≤j∧j<w7.heap.size):=⟨_,rfl⟩
   have hrow7:RowAt w7 S7 B g (putsF Q (K+14) ((List.range i).map fun i=>(RR i,3))) (K+14+bitsT ((List.range i).map fun i=>(RR i,3))):=by rw[hS7];exact HRA.out.grow hb7
   have hSS7:∀j,S4 j→S7 j:=fun j hj=>by rw[hS7];exact .inl hj
   have hSk:S7 gk:=by rw[hS7];exact .inr ⟨hgk,hrc7.lt⟩
   have hrun:=runs11_any w7 S7 B g _ _ Au nu cu rl FR gk ck hrow7 HNU.out ((HRUX.out.below hb7 (Nat.le_refl _)).more hb7.size) (fun b o h0 e=>hSS7 b (HIU.out b o h0 e)) hnub hrc7 hSk HRC.out HRF.out (by have:=HK.out;have:=HPB.out;omega)
   rw[HPB.out,HPF.out]at hrun
   have HRUN:=Lib.hid hrun;have HSS7:=Lib.hid hSS7
   have HK7:=Lib.hid (HK4.out.tr ((HKP.out.tr (KpB.below HRA.out.top hb7)).less HSS.out));have HB7:=Lib.hid (HB4.out.trans (HB.out.trans (hb7.mono HRA.out.size)))
   clear hrun hSS7 hSk hrow7 hS7 hrc7 hb7 hgk
   go_wp2_with fail
   refine HRUN.out.mono ?_
   rintro e w8 ⟨rfl,h1,h2,h3⟩
   have H1:=Lib.hid (h1.less fun j hj=>HSS7.out j (HSS.out j hj));have H2:=Lib.hid (HK7.out.tr (h2.less fun j hj=>HSS7.out j (HSS.out j hj)));have H3:=Lib.hid (HB7.out.trans h3)
   clear h1 h2 h3
   go_wp2
   go_end0
   exact⟨rfl,H1.out,H2.out,H3.out⟩
end Go.Proofs.YtokpcpjnihinfaaGreat
namespace Go.Proofs.YtokpcpjnihinfaaGreat
open Go.RowKit Go.ChangeShapes Go.WideShapes Go.ChangeAt Go.Joins
def opnP(k kind n:Nat)(l:List Tok)(last:Bool):List (Nat×Nat):=
 [(if last then 1 else 0,1),(kind,2)]++(if kind=1 then[]else if kind=2 then dynP l else[(0,(8-(k+3)%8)%8),(n,16),(65535-n,16)])
def opnA(kind:Nat)(l:List Tok):Nat→Nat:=if kind=1 then fixA else if kind=2 then lnA l else fun _=>0
def opnB(kind:Nat)(l:List Tok):Nat→Nat:=if kind=1 then fixB else if kind=2 then lnB l else fun _=>0
def opnM(kind:Nat)(l:List Tok):Nat:=if kind=1 then 288 else if kind=2 then nA l else 0
def opnN(kind:Nat)(l:List Tok):Nat:=if kind=1 then 32 else if kind=2 then nB l else 0
def OpnR(S:Nat→Prop)(B g:Nat)(f:Nat→Nat)(K kind n:Nat)(l:List Tok)(last:Bool)(w:World)(e:Ending)(w':World):Prop:=
 ∃A1 c1 A2 c2,e=.returned (.tuple #[.slice A1 (opnM kind l) c1,.slice A2 (opnN kind l) c2])∧RdB w' w'.heap.size A1 (opnM kind l) (opnA kind l)∧RdB w' w'.heap.size A2 (opnN kind l) (opnB kind l)∧
  RowAt w' S B g (putsF f K (opnP K kind n l last)) (K+bitsT (opnP K kind n l last))∧KpB S w w'∧Below B w w'
theorem open0false_any(w:World)(S:Nat→Prop)(B g:Nat)(f:Nat→Nat)(K n gc:Nat)(l:List Tok)(h:RowAt w S B g f K)(hn:n≤65535)(hK:K≤8388608)(hgc:RowT w gc 317 (cntE l) 159)(_hl:l.length≤65535)(hok:∀t∈l,mayT t=true∧t.x<256)(hb:K+bitsT (opnP K 0 n l false)≤16000000):
  Calls Tryz.prog 83 #[.pointer (some ⟨g,0,none⟩),.int .u8 0,.bool false,.int .i64 (n:Int),.pointer (some ⟨gc,0,none⟩)] w (OpnR S B g f K 0 n l false w):=by
 have hput:=put_lit w S B g f K [(0,1),(0,2)] 2 rfl #[.int .u32 0,.int .i64 1,.int .u32 0,.int .i64 2] rfl h (by omega) (fun z hz=>by
  simp only[List.mem_cons,List.not_mem_nil,or_false]at hz
  rcases hz with rfl|rfl
  ·exact fit_mk (by omega) (by omega)
  ·exact fit_mk (by omega) (by omega)) (by simp[bitsT];omega)
 have hbt:bitsT [(0,1),(0,2)]=3:=rfl
 rw[hbt]at hput
 obtain⟨Q,hQ⟩:∃Q,Q=putsF f K [(0,1),(0,2)]:=⟨_,rfl⟩
 rw[←hQ]at hput
 have hop:opnP K 0 n l false=[(0,1),(0,2)]++[(0,(8-(K+3)%8)%8),(n,16),(65535-n,16)]:=rfl
 have hpf:putsF Q (K+3) [(0,(8-(K+3)%8)%8),(n,16),(65535-n,16)]=putsF f K (opnP K 0 n l false):=by rw[hop,putsF_app,hbt,hQ]
 have hpb:K+3+bitsT [(0,(8-(K+3)%8)%8),(n,16),(65535-n,16)]=K+bitsT (opnP K 0 n l false):=by rw[hop,bitsT_app,hbt];omega
 have HPUT:=Lib.hid hput;have HPF:=Lib.hid hpf;have HPB:=Lib.hid hpb;have HH:=Lib.hid h;have HGC:=Lib.hid hgc;have HOK:=Lib.hid hok;have HBB:=Lib.hid hb
 clear hput hpf hpb hQ hop hbt h hgc hok hb
 go_enter Tryz.func83,Tryz.ntmps83
 go_wp2_with (first
  |(refine wpList_buildTo rfl 169 #[(0,.tmp 15),(1,.const (.int .i64 1))] rfl (some 16) rfl #[.int .u32 0,.int .i64 1] ?_ ?_;focus(simpa[Act.eval]using built_numP 0 1))
  |(refine wpList_buildTo rfl 169 #[(0,.tmp 18),(1,.const (.int .i64 2))] rfl (some 19) rfl #[.int .u32 0,.int .i64 2] ?_ ?_;focus(simpa[Act.eval]using built_numP 0 2))
  |fail)
 refine HPUT.out.mono ?_
 rintro e w1 ⟨rfl,h1,h2,h3⟩
 have hsz:=size11_any w1 S B g Q (K+3) n ((8-(K+3)%8)%8) h1 hn (by omega) rfl
 rw[HPF.out,HPB.out]at hsz
 have HSZ:=Lib.hid hsz;have H2:=Lib.hid h2;have H3:=Lib.hid h3
 clear hsz h1 h2 h3 HPUT
 go_wp2_with fail
 refine HSZ.out.mono ?_
 rintro e w2 ⟨rfl,k1,k2,k3⟩
 have K1:=Lib.hid k1;have K2:=Lib.hid (H2.out.tr k2);have K3:=Lib.hid (H3.out.trans k3)
 clear k1 k2 k3
 go_wp2
 go_ret2
 exact⟨none,0,none,0,rfl,⟨fun _=>by show 0<256;omega,fun h=>absurd h (by show¬0<0;omega)⟩,⟨fun _=>by show 0<256;omega,fun h=>absurd h (by show¬0<0;omega)⟩,K1.out,K2.out,K3.out⟩
theorem open0true_any(w:World)(S:Nat→Prop)(B g:Nat)(f:Nat→Nat)(K n gc:Nat)(l:List Tok)(h:RowAt w S B g f K)(hn:n≤65535)(hK:K≤8388608)(hgc:RowT w gc 317 (cntE l) 159)(_hl:l.length≤65535)(hok:∀t∈l,mayT t=true∧t.x<256)(hb:K+bitsT (opnP K 0 n l true)≤16000000):
  Calls Tryz.prog 83 #[.pointer (some ⟨g,0,none⟩),.int .u8 0,.bool true,.int .i64 (n:Int),.pointer (some ⟨gc,0,none⟩)] w (OpnR S B g f K 0 n l true w):=by
 have hput:=put_lit w S B g f K [(1,1),(0,2)] 2 rfl #[.int .u32 1,.int .i64 1,.int .u32 0,.int .i64 2] rfl h (by omega) (fun z hz=>by
  simp only[List.mem_cons,List.not_mem_nil,or_false]at hz
  rcases hz with rfl|rfl
  ·exact fit_mk (by omega) (by omega)
  ·exact fit_mk (by omega) (by omega)) (by simp[bitsT];omega)
 have hbt:bitsT [(1,1),(0,2)]=3:=rfl
 rw[hbt]at hput
 obtain⟨Q,hQ⟩:∃Q,Q=putsF f K [(1,1),(0,2)]:=⟨_,rfl⟩
 rw[←hQ]at hput
 have hop:opnP K 0 n l true=[(1,1),(0,2)]++[(0,(8-(K+3)%8)%8),(n,16),(65535-n,16)]:=rfl
 have hpf:putsF Q (K+3) [(0,(8-(K+3)%8)%8),(n,16),(65535-n,16)]=putsF f K (opnP K 0 n l true):=by rw[hop,putsF_app,hbt,hQ]
 have hpb:K+3+bitsT [(0,(8-(K+3)%8)%8),(n,16),(65535-n,16)]=K+bitsT (opnP K 0 n l true):=by rw[hop,bitsT_app,hbt];omega
 have HPUT:=Lib.hid hput;have HPF:=Lib.hid hpf;have HPB:=Lib.hid hpb;have HH:=Lib.hid h;have HGC:=Lib.hid hgc;have HOK:=Lib.hid hok;have HBB:=Lib.hid hb
 clear hput hpf hpb hQ hop hbt h hgc hok hb
 go_enter Tryz.func83,Tryz.ntmps83
 go_wp2_with (first
  |(refine wpList_buildTo rfl 169 #[(0,.tmp 15),(1,.const (.int .i64 1))] rfl (some 16) rfl #[.int .u32 1,.int .i64 1] ?_ ?_;focus(simpa[Act.eval]using built_numP 1 1))
  |(refine wpList_buildTo rfl 169 #[(0,.tmp 18),(1,.const (.int .i64 2))] rfl (some 19) rfl #[.int .u32 0,.int .i64 2] ?_ ?_;focus(simpa[Act.eval]using built_numP 0 2))
  |fail)
 refine HPUT.out.mono ?_
 rintro e w1 ⟨rfl,h1,h2,h3⟩
 have hsz:=size11_any w1 S B g Q (K+3) n ((8-(K+3)%8)%8) h1 hn (by omega) rfl
 rw[HPF.out,HPB.out]at hsz
 have HSZ:=Lib.hid hsz;have H2:=Lib.hid h2;have H3:=Lib.hid h3
 clear hsz h1 h2 h3 HPUT
 go_wp2_with fail
 refine HSZ.out.mono ?_
 rintro e w2 ⟨rfl,k1,k2,k3⟩
 have K1:=Lib.hid k1;have K2:=Lib.hid (H2.out.tr k2);have K3:=Lib.hid (H3.out.trans k3)
 clear k1 k2 k3
 go_wp2
 go_ret2
 exact⟨none,0,none,0,rfl,⟨fun _=>by show 0<256;omega,fun h=>absurd h (by show¬0<0;omega)⟩,⟨fun _=>by show 0<256;omega,fun h=>absurd h (by show¬0<0;omega)⟩,K1.out,K2.out,K3.out⟩
theorem open1false_any(w:World)(S:Nat→Prop)(B g:Nat)(f:Nat→Nat)(K n gc:Nat)(l:List Tok)(h:RowAt w S B g f K)(_hn:n≤65535)(hK:K≤8388608)(hgc:RowT w gc 317 (cntE l) 159)(_hl:l.length≤65535)(hok:∀t∈l,mayT t=true∧t.x<256)(hb:K+bitsT (opnP K 1 n l false)≤16000000):
  Calls Tryz.prog 83 #[.pointer (some ⟨g,0,none⟩),.int .u8 1,.bool false,.int .i64 (n:Int),.pointer (some ⟨gc,0,none⟩)] w (OpnR S B g f K 1 n l false w):=by
 have hput:=put_lit w S B g f K [(0,1),(1,2)] 2 rfl #[.int .u32 0,.int .i64 1,.int .u32 1,.int .i64 2] rfl h (by omega) (fun z hz=>by
  simp only[List.mem_cons,List.not_mem_nil,or_false]at hz
  rcases hz with rfl|rfl
  ·exact fit_mk (by omega) (by omega)
  ·exact fit_mk (by omega) (by omega)) (by simp[bitsT];omega)
 have hbt:bitsT [(0,1),(1,2)]=3:=rfl
 rw[hbt]at hput
 obtain⟨Q,hQ⟩:∃Q,Q=putsF f K [(0,1),(1,2)]:=⟨_,rfl⟩
 rw[←hQ]at hput
 have hop:opnP K 1 n l false=[(0,1),(1,2)]:=rfl
 have hpf:Q=putsF f K (opnP K 1 n l false):=by rw[hop,hQ]
 have hpb:K+3=K+bitsT (opnP K 1 n l false):=by rw[hop,hbt]
 have HPUT:=Lib.hid hput;have HPF:=Lib.hid hpf;have HPB:=Lib.hid hpb;have HH:=Lib.hid h;have HGC:=Lib.hid hgc;have HOK:=Lib.hid hok;have HBB:=Lib.hid hb
 clear hput hpf hpb hQ hop hbt h hgc hok hb
 go_enter Tryz.func83,Tryz.ntmps83
 go_wp2_with (first
  |(refine wpList_buildTo rfl 169 #[(0,.tmp 15),(1,.const (.int .i64 1))] rfl (some 16) rfl #[.int .u32 0,.int .i64 1] ?_ ?_;focus(simpa[Act.eval]using built_numP 0 1))
  |(refine wpList_buildTo rfl 169 #[(0,.tmp 18),(1,.const (.int .i64 2))] rfl (some 19) rfl #[.int .u32 1,.int .i64 2] ?_ ?_;focus(simpa[Act.eval]using built_numP 1 2))
  |fail)
 refine HPUT.out.mono ?_
 rintro e w1 ⟨rfl,h1,h2,h3⟩
 rw[HPF.out,HPB.out]at h1
 have H1:=Lib.hid h1;have H2:=Lib.hid h2;have H3:=Lib.hid h3
 have HFX:=Lib.hid (fixed_con w1)
 clear h1 h2 h3 HPUT
 go_wp2_with fail
 refine HFX.out.mono ?_
 rintro e w2 ⟨A1,c1,A2,c2,rfl,o1,o2,_,hb2⟩
 have R1:=Lib.hid (RdB.of_own o1 (fun j=>by have:=fixA_le j;omega));have R2:=Lib.hid (RdB.of_own o2 (fun j=>by have:=fixB_le j;omega));have K1:=Lib.hid (H1.out.after hb2);have K2:=Lib.hid (H2.out.tr (KpB.below H1.out.top hb2));have K3:=Lib.hid (H3.out.trans (hb2.mono H1.out.size))
 clear o1 o2 hb2 H1 H2 H3
 go_wp2
 go_ret2
 exact⟨A1,c1,A2,c2,rfl,R1.out,R2.out,K1.out,K2.out,K3.out⟩
theorem open1true_any(w:World)(S:Nat→Prop)(B g:Nat)(f:Nat→Nat)(K n gc:Nat)(l:List Tok)(h:RowAt w S B g f K)(_hn:n≤65535)(hK:K≤8388608)(hgc:RowT w gc 317 (cntE l) 159)(_hl:l.length≤65535)(hok:∀t∈l,mayT t=true∧t.x<256)(hb:K+bitsT (opnP K 1 n l true)≤16000000):
  Calls Tryz.prog 83 #[.pointer (some ⟨g,0,none⟩),.int .u8 1,.bool true,.int .i64 (n:Int),.pointer (some ⟨gc,0,none⟩)] w (OpnR S B g f K 1 n l true w):=by
 have hput:=put_lit w S B g f K [(1,1),(1,2)] 2 rfl #[.int .u32 1,.int .i64 1,.int .u32 1,.int .i64 2] rfl h (by omega) (fun z hz=>by
  simp only[List.mem_cons,List.not_mem_nil,or_false]at hz
  rcases hz with rfl|rfl
  ·exact fit_mk (by omega) (by omega)
  ·exact fit_mk (by omega) (by omega)) (by simp[bitsT];omega)
 have hbt:bitsT [(1,1),(1,2)]=3:=rfl
 rw[hbt]at hput
 obtain⟨Q,hQ⟩:∃Q,Q=putsF f K [(1,1),(1,2)]:=⟨_,rfl⟩
 rw[←hQ]at hput
 have hop:opnP K 1 n l true=[(1,1),(1,2)]:=rfl
 have hpf:Q=putsF f K (opnP K 1 n l true):=by rw[hop,hQ]
 have hpb:K+3=K+bitsT (opnP K 1 n l true):=by rw[hop,hbt]
 have HPUT:=Lib.hid hput;have HPF:=Lib.hid hpf;have HPB:=Lib.hid hpb;have HH:=Lib.hid h;have HGC:=Lib.hid hgc;have HOK:=Lib.hid hok;have HBB:=Lib.hid hb
 clear hput hpf hpb hQ hop hbt h hgc hok hb
 go_enter Tryz.func83,Tryz.ntmps83
 go_wp2_with (first
  |(refine wpList_buildTo rfl 169 #[(0,.tmp 15),(1,.const (.int .i64 1))] rfl (some 16) rfl #[.int .u32 1,.int .i64 1] ?_ ?_;focus(simpa[Act.eval]using built_numP 1 1))
  |(refine wpList_buildTo rfl 169 #[(0,.tmp 18),(1,.const (.int .i64 2))] rfl (some 19) rfl #[.int .u32 1,.int .i64 2] ?_ ?_;focus(simpa[Act.eval]using built_numP 1 2))
  |fail)
 refine HPUT.out.mono ?_
 rintro e w1 ⟨rfl,h1,h2,h3⟩
 rw[HPF.out,HPB.out]at h1
 have H1:=Lib.hid h1;have H2:=Lib.hid h2;have H3:=Lib.hid h3
 have HFX:=Lib.hid (fixed_con w1)
 clear h1 h2 h3 HPUT
 go_wp2_with fail
 refine HFX.out.mono ?_
 rintro e w2 ⟨A1,c1,A2,c2,rfl,o1,o2,_,hb2⟩
 have R1:=Lib.hid (RdB.of_own o1 (fun j=>by have:=fixA_le j;omega));have R2:=Lib.hid (RdB.of_own o2 (fun j=>by have:=fixB_le j;omega));have K1:=Lib.hid (H1.out.after hb2);have K2:=Lib.hid (H2.out.tr (KpB.below H1.out.top hb2));have K3:=Lib.hid (H3.out.trans (hb2.mono H1.out.size))
 clear o1 o2 hb2 H1 H2 H3
 go_wp2
 go_ret2
 exact⟨A1,c1,A2,c2,rfl,R1.out,R2.out,K1.out,K2.out,K3.out⟩
theorem open2false_any(w:World)(S:Nat→Prop)(B g:Nat)(f:Nat→Nat)(K n gc:Nat)(l:List Tok)(h:RowAt w S B g f K)(_hn:n≤65535)(hK:K≤8388608)(hSc:S gc)(hgc:RowT w gc 317 (cntE l) 159)(hl:l.length≤65535)(hok:∀t∈l,mayT t=true∧t.x<256)(hb:K+bitsT (opnP K 2 n l false)≤16000000):
  Calls Tryz.prog 83 #[.pointer (some ⟨g,0,none⟩),.int .u8 2,.bool false,.int .i64 (n:Int),.pointer (some ⟨gc,0,none⟩)] w (OpnR S B g f K 2 n l false w):=by
 have hput:=put_lit w S B g f K [(0,1),(2,2)] 2 rfl #[.int .u32 0,.int .i64 1,.int .u32 2,.int .i64 2] rfl h (by omega) (fun z hz=>by
  simp only[List.mem_cons,List.not_mem_nil,or_false]at hz
  rcases hz with rfl|rfl
  ·exact fit_mk (by omega) (by omega)
  ·exact fit_mk (by omega) (by omega)) (by simp[bitsT];omega)
 have hbt:bitsT [(0,1),(2,2)]=3:=rfl
 rw[hbt]at hput
 obtain⟨Q,hQ⟩:∃Q,Q=putsF f K [(0,1),(2,2)]:=⟨_,rfl⟩
 rw[←hQ]at hput
 have hop:opnP K 2 n l false=[(0,1),(2,2)]++dynP l:=rfl
 have hpf:putsF Q (K+3) (dynP l)=putsF f K (opnP K 2 n l false):=by rw[hop,putsF_app,hbt,hQ]
 have hpb:K+3+bitsT (dynP l)=K+bitsT (opnP K 2 n l false):=by rw[hop,bitsT_app,hbt];omega
 have HPUT:=Lib.hid hput;have HPF:=Lib.hid hpf;have HPB:=Lib.hid hpb;have HH:=Lib.hid h;have HSC:=Lib.hid hSc;have HGC:=Lib.hid hgc;have HOK:=Lib.hid hok;have HBB:=Lib.hid hb
 clear hput hpf hpb hQ hop hbt h hgc hok hb hSc
 go_enter Tryz.func83,Tryz.ntmps83
 go_wp2_with (first
  |(refine wpList_buildTo rfl 169 #[(0,.tmp 15),(1,.const (.int .i64 1))] rfl (some 16) rfl #[.int .u32 0,.int .i64 1] ?_ ?_;focus(simpa[Act.eval]using built_numP 0 1))
  |(refine wpList_buildTo rfl 169 #[(0,.tmp 18),(1,.const (.int .i64 2))] rfl (some 19) rfl #[.int .u32 2,.int .i64 2] ?_ ?_;focus(simpa[Act.eval]using built_numP 2 2))
  |fail)
 refine HPUT.out.mono ?_
 rintro e w1 ⟨rfl,h1,h2,h3⟩
 have hg1:RowT w1 gc 317 (cntE l) 159:=(h2 gc HSC.out).trans HGC.out
 have hls:=least11_any w1 gc l hg1 (by omega) HOK.out
 have HLS:=Lib.hid hls;have H1:=Lib.hid h1;have H2:=Lib.hid h2;have H3:=Lib.hid h3
 clear hls hg1 h1 h2 h3 HPUT
 go_wp2_with fail
 refine HLS.out.mono ?_
 rintro e w2 ⟨A1,c1,A2,c2,rfl,r1,r2,n1,n2,hb2⟩
 obtain⟨S2,hS2⟩:∃S':Nat→Prop,S'=fun j=>S j∨(w1.heap.size≤j∧j<w2.heap.size):=⟨_,rfl⟩
 have hrow2:RowAt w2 S2 B g Q (K+3):=by rw[hS2];exact H1.out.grow hb2
 have hSS:∀j,S j→S2 j:=fun j hj=>by rw[hS2];exact .inl hj
 have hI1:InS S2 A1 (nA l):=fun b o h0 e=>by
  obtain⟨b',o',e',hlt,_⟩:=r1.1.2 h0
  have hb':=n1 b o e
  rw[e]at e'
  injection e' with e'
  injection e' with e1
  rw[hS2];exact .inr ⟨hb',by omega⟩
 have hI2:InS S2 A2 (nB l):=fun b o h0 e=>by
  obtain⟨b',o',e',hlt,_⟩:=r2.1.2 h0
  have hb':=n2 b o e
  rw[e]at e'
  injection e' with e'
  injection e' with e1
  rw[hS2];exact .inr ⟨hb',by omega⟩
 have htb:=table11_any w2 S2 B g Q (K+3) A1 c1 A2 c2 l hrow2 (by omega) r1 r2 (by rw[HPB.out];exact HBB.out)
 rw[HPF.out,HPB.out]at htb
 have HTB:=Lib.hid htb;have R1:=Lib.hid r1;have R2:=Lib.hid r2;have HI1:=Lib.hid hI1;have HI2:=Lib.hid hI2;have HSS:=Lib.hid hSS
 have K2:=Lib.hid (H2.out.tr (KpB.below H1.out.top hb2));have K3:=Lib.hid (H3.out.trans (hb2.mono H1.out.size))
 clear htb r1 r2 hI1 hI2 hSS hrow2 hS2 n1 n2 hb2 H1 H2 H3 HLS
 go_wp2_with fail
 refine HTB.out.mono ?_
 rintro e w3 ⟨rfl,k1,k2,k3⟩
 have K1:=Lib.hid (k1.less HSS.out);have KP:=Lib.hid k2;have K4:=Lib.hid (K2.out.tr (k2.less HSS.out));have K5:=Lib.hid (K3.out.trans k3)
 have hsz:=k3.size
 clear k1 k2 k3
 go_wp2
 go_ret2
 exact⟨A1,c1,A2,c2,rfl,R1.out.1.keepS KP.out HI1.out hsz,R2.out.1.keepS KP.out HI2.out hsz,K1.out,K4.out,K5.out⟩
theorem open2true_any(w:World)(S:Nat→Prop)(B g:Nat)(f:Nat→Nat)(K n gc:Nat)(l:List Tok)(h:RowAt w S B g f K)(_hn:n≤65535)(hK:K≤8388608)(hSc:S gc)(hgc:RowT w gc 317 (cntE l) 159)(hl:l.length≤65535)(hok:∀t∈l,mayT t=true∧t.x<256)(hb:K+bitsT (opnP K 2 n l true)≤16000000):
  Calls Tryz.prog 83 #[.pointer (some ⟨g,0,none⟩),.int .u8 2,.bool true,.int .i64 (n:Int),.pointer (some ⟨gc,0,none⟩)] w (OpnR S B g f K 2 n l true w):=by
 have hput:=put_lit w S B g f K [(1,1),(2,2)] 2 rfl #[.int .u32 1,.int .i64 1,.int .u32 2,.int .i64 2] rfl h (by omega) (fun z hz=>by
  simp only[List.mem_cons,List.not_mem_nil,or_false]at hz
  rcases hz with rfl|rfl
  ·exact fit_mk (by omega) (by omega)
  ·exact fit_mk (by omega) (by omega)) (by simp[bitsT];omega)
 have hbt:bitsT [(1,1),(2,2)]=3:=rfl
 rw[hbt]at hput
 obtain⟨Q,hQ⟩:∃Q,Q=putsF f K [(1,1),(2,2)]:=⟨_,rfl⟩
 rw[←hQ]at hput
 have hop:opnP K 2 n l true=[(1,1),(2,2)]++dynP l:=rfl
 have hpf:putsF Q (K+3) (dynP l)=putsF f K (opnP K 2 n l true):=by rw[hop,putsF_app,hbt,hQ]
 have hpb:K+3+bitsT (dynP l)=K+bitsT (opnP K 2 n l true):=by rw[hop,bitsT_app,hbt];omega
 have HPUT:=Lib.hid hput;have HPF:=Lib.hid hpf;have HPB:=Lib.hid hpb;have HH:=Lib.hid h;have HSC:=Lib.hid hSc;have HGC:=Lib.hid hgc;have HOK:=Lib.hid hok;have HBB:=Lib.hid hb
 clear hput hpf hpb hQ hop hbt h hgc hok hb hSc
 go_enter Tryz.func83,Tryz.ntmps83
 go_wp2_with (first
  |(refine wpList_buildTo rfl 169 #[(0,.tmp 15),(1,.const (.int .i64 1))] rfl (some 16) rfl #[.int .u32 1,.int .i64 1] ?_ ?_;focus(simpa[Act.eval]using built_numP 1 1))
  |(refine wpList_buildTo rfl 169 #[(0,.tmp 18),(1,.const (.int .i64 2))] rfl (some 19) rfl #[.int .u32 2,.int .i64 2] ?_ ?_;focus(simpa[Act.eval]using built_numP 2 2))
  |fail)
 refine HPUT.out.mono ?_
 rintro e w1 ⟨rfl,h1,h2,h3⟩
 have hg1:RowT w1 gc 317 (cntE l) 159:=(h2 gc HSC.out).trans HGC.out
 have hls:=least11_any w1 gc l hg1 (by omega) HOK.out
 have HLS:=Lib.hid hls;have H1:=Lib.hid h1;have H2:=Lib.hid h2;have H3:=Lib.hid h3
 clear hls hg1 h1 h2 h3 HPUT
 go_wp2_with fail
 refine HLS.out.mono ?_
 rintro e w2 ⟨A1,c1,A2,c2,rfl,r1,r2,n1,n2,hb2⟩
 obtain⟨S2,hS2⟩:∃S':Nat→Prop,S'=fun j=>S j∨(w1.heap.size≤j∧j<w2.heap.size):=⟨_,rfl⟩
 have hrow2:RowAt w2 S2 B g Q (K+3):=by rw[hS2];exact H1.out.grow hb2
 have hSS:∀j,S j→S2 j:=fun j hj=>by rw[hS2];exact .inl hj
 have hI1:InS S2 A1 (nA l):=fun b o h0 e=>by
  obtain⟨b',o',e',hlt,_⟩:=r1.1.2 h0
  have hb':=n1 b o e
  rw[e]at e'
  injection e' with e'
  injection e' with e1
  rw[hS2];exact .inr ⟨hb',by omega⟩
 have hI2:InS S2 A2 (nB l):=fun b o h0 e=>by
  obtain⟨b',o',e',hlt,_⟩:=r2.1.2 h0
  have hb':=n2 b o e
  rw[e]at e'
  injection e' with e'
  injection e' with e1
  rw[hS2];exact .inr ⟨hb',by omega⟩
 have htb:=table11_any w2 S2 B g Q (K+3) A1 c1 A2 c2 l hrow2 (by omega) r1 r2 (by rw[HPB.out];exact HBB.out)
 rw[HPF.out,HPB.out]at htb
 have HTB:=Lib.hid htb;have R1:=Lib.hid r1;have R2:=Lib.hid r2;have HI1:=Lib.hid hI1;have HI2:=Lib.hid hI2;have HSS:=Lib.hid hSS
 have K2:=Lib.hid (H2.out.tr (KpB.below H1.out.top hb2));have K3:=Lib.hid (H3.out.trans (hb2.mono H1.out.size))
 clear htb r1 r2 hI1 hI2 hSS hrow2 hS2 n1 n2 hb2 H1 H2 H3 HLS
 go_wp2_with fail
 refine HTB.out.mono ?_
 rintro e w3 ⟨rfl,k1,k2,k3⟩
 have K1:=Lib.hid (k1.less HSS.out);have KP:=Lib.hid k2;have K4:=Lib.hid (K2.out.tr (k2.less HSS.out));have K5:=Lib.hid (K3.out.trans k3)
 have hsz:=k3.size
 clear k1 k2 k3
 go_wp2
 go_ret2
 exact⟨A1,c1,A2,c2,rfl,R1.out.1.keepS KP.out HI1.out hsz,R2.out.1.keepS KP.out HI2.out hsz,K1.out,K4.out,K5.out⟩
theorem open11_any(w:World)(S:Nat→Prop)(B g:Nat)(f:Nat→Nat)(K n gc kind:Nat)(l:List Tok)(last:Bool)(h:RowAt w S B g f K)(hkd:kind≤2)(hn:n≤65535)(hK:K≤8388608)(hSc:S gc)(hgc:RowT w gc 317 (cntE l) 159)(hl:l.length≤65535)(hok:∀t∈l,mayT t=true∧t.x<256)(hb:K+bitsT (opnP K kind n l last)≤16000000):
  Calls Tryz.prog 83 #[.pointer (some ⟨g,0,none⟩),.int .u8 (kind:Int),.bool last,.int .i64 (n:Int),.pointer (some ⟨gc,0,none⟩)] w (OpnR S B g f K kind n l last w):=by
 have hc:kind=0∨kind=1∨kind=2:=by omega
 rcases hc with rfl|rfl|rfl<;>cases last
 ·exact open0false_any w S B g f K n gc l h hn hK hgc hl hok hb
 ·exact open0true_any w S B g f K n gc l h hn hK hgc hl hok hb
 ·exact open1false_any w S B g f K n gc l h hn hK hgc hl hok hb
 ·exact open1true_any w S B g f K n gc l h hn hK hgc hl hok hb
 ·exact open2false_any w S B g f K n gc l h hn hK hSc hgc hl hok hb
 ·exact open2true_any w S B g f K n gc l h hn hK hSc hgc hl hok hb
end Go.Proofs.YtokpcpjnihinfaaGreat
namespace Go.Proofs.YtokpcpjnihinfaaGreat
open Go.RowKit Go.ChangeShapes Go.WideShapes Go.ChangeAt Go.Joins
theorem cst_one(T:Nat→Nat)(f:Nat→Nat)(s d:Nat):∀N,cstN (fun i=>T i+if i=s then d else 0) f N=cstN T f N+if s<N then d*f s else 0
 |0=>by simp[cstN]
 |N+1=>by
  have ih:=cst_one T f s d N
  show cstN (fun i=>T i+if i=s then d else 0) f N+(T N+if N=s then d else 0)*f N=cstN T f N+T N*f N+_
  rw[ih,Nat.add_mul]
  by_cases h:N=s
  ·subst h;rw[if_pos rfl,if_neg (by omega),if_pos (by omega)];omega
  ·rw[if_neg h]
   by_cases h2:s<N
   ·rw[if_pos h2,if_pos (by omega)];omega
   ·rw[if_neg h2,if_neg (by omega)];omega
theorem cst_ext{T T' f:Nat→Nat}:∀N,(∀i,i<N→T i=T' i)→cstN T f N=cstN T' f N
 |0,_=>rfl
 |N+1,h=>by
  show cstN T f N+T N*f N=cstN T' f N+T' N*f N
  rw[cst_ext N (fun i hi=>h i (by omega)),h N (by omega)]
theorem snoc_ind{α:Type}{p:List α→Prop}(h0:p [])(h1:∀l x,p l→p (l++[x]))(l:List α):p l:=by
 have:∀n (l:List α),l.length=n→p l:=by
  intro n
  induction n with
  |zero=>intro l h;rw[List.length_eq_zero_iff.1 h];exact h0
  |succ n ih=>
   intro l h
   have hne:l≠[]:=by intro e;rw[e]at h;cases h
   rw[←List.dropLast_concat_getLast hne]
   exact h1 _ _ (ih _ (by rw[List.length_dropLast];omega))
 exact this _ l rfl
theorem toks_cost(F G:Nat→Nat)(n m N M:Nat)(hN:256<N)(l:List Tok):(∀t∈l,mayT t=true∧t.x<256∧symA t<N∧(t.n≠0→symB t<M))→
  bitsT (toksP F n G m l)=cstN (cntA l) F N+cstN (cntB l) G M+extT l:=by
 refine snoc_ind (p:=fun l=>(∀t∈l,mayT t=true∧t.x<256∧symA t<N∧(t.n≠0→symB t<M))→bitsT (toksP F n G m l)=cstN (cntA l) F N+cstN (cntB l) G M+extT l) ?_ ?_ l
 ·intro _
  have e1:cstN (cntA []) F N=F 256:=by
   have h:=cst_one (fun _=>0) F 256 1 N
   have h0:∀K,cstN (fun _=>0) F K=0:=by
    intro K
    induction K with
    |zero=>rfl
    |succ K ih=>show cstN (fun _=>0) F K+0*F K=0;rw[ih];omega
   rw[h0,if_pos hN,Nat.one_mul,Nat.zero_add]at h
   rw[←h]
   exact cst_ext N fun i _=>by simp[cntA]
  have e2:cstN (cntB []) G M=0:=by
   have h0:∀K,cstN (cntB []) G K=0:=by
    intro K
    induction K with
    |zero=>rfl
    |succ K ih=>show cstN (cntB []) G K+cntB [] K*G K=0;rw[ih];simp[cntB]
   exact h0 M
  rw[e1,e2]
  simp[toksP,bitsT,codP,extT]
 ·intro l t ih h
  have ih:=ih fun u hu=>h u (List.mem_append_left _ hu)
  obtain⟨hmy,hx,hsA,hsB⟩:=h t (by simp)
  have e0:bitsT (toksP F n G m (l++[t]))=bitsT (toksP F n G m l)+bitsT (tokP F n G m t):=by
   unfold toksP;rw[List.flatMap_append,bitsT_app,bitsT_app,bitsT_app];simp;omega
  have e1:cstN (cntA (l++[t])) F N=cstN (cntA l) F N+F (symA t):=by
   have h:=cst_one (cntA l) F (symA t) 1 N
   rw[if_pos hsA,Nat.one_mul]at h
   rw[←h]
   exact cst_ext N fun i _=>by
    rw[cntA_one]
    by_cases e:i=symA t
    ·rw[if_pos e,if_pos e.symm]
    ·rw[if_neg e,if_neg (fun k=>e k.symm)]
  rw[e0,e1,extT_one,ih]
  by_cases h0:t.n=0
  ·have e2:cstN (cntB (l++[t])) G M=cstN (cntB l) G M:=cst_ext M fun i _=>by rw[cntB_one,if_neg (fun k=>k.1 h0)];rfl
   have e3:tokP F n G m t=[codP F n t.x]:=by unfold tokP;rw[if_pos h0]
   have e4:extK t=0:=by unfold extK;rw[if_pos h0]
   have e5:symA t=t.x:=by unfold symA;rw[if_pos h0]
   rw[e2,e3,e4,e5]
   simp[bitsT,codP];omega
  ·have e2:cstN (cntB (l++[t])) G M=cstN (cntB l) G M+G (symB t):=by
    have h:=cst_one (cntB l) G (symB t) 1 M
    rw[if_pos (hsB h0),Nat.one_mul]at h
    rw[←h]
    exact cst_ext M fun i _=>by
     rw[cntB_one]
     by_cases e:i=symB t
     ·rw[if_pos e,if_pos ⟨h0,e.symm⟩]
     ·rw[if_neg e,if_neg (fun k=>e k.2.symm)]
   have e3:tokP F n G m t=[codP F n (symA t),((lgX t.n).toNat,(lgB t.n).toNat),codP G m (symB t),((frX t.d).toNat,(frB t.d).toNat)]:=by
    unfold tokP symA symB;rw[if_neg h0,if_neg h0]
   have e4:extK t=(lgB t.n).toNat+(frB t.d).toNat:=by unfold extK;rw[if_neg h0]
   rw[e2,e3,e4]
   simp[bitsT,codP];omega
theorem opn_bits(k kind n:Nat)(r:Nat→Nat)(l:List Tok)(last:Bool)(hkd:kind≤2)(hl:l.length≤65535)(hok:∀t∈l,mayT t=true∧t.x<256):
  bitsT (blkP (k%8) kind n r l last)=bitsT (opnP k kind n l last)+if kind=0 then 8*n else cstN (cntA l) (opnA kind l) (min (opnM kind l) 286)+cstN (cntB l) (opnB kind l) (min (opnN kind l) 30)+extT l:=by
 have hc:kind=0∨kind=1∨kind=2:=by omega
 rcases hc with rfl|rfl|rfl
 ·rw[sto_bits,if_pos rfl]
  have e:opnP k 0 n l last=[(if last then 1 else 0,1),(0,2)]++[(0,(8-(k+3)%8)%8),(n,16),(65535-n,16)]:=rfl
  rw[e,bitsT_app]
  have e2:bitsT [((if last then 1 else 0:Nat),1),(0,2)]=3:=rfl
  rw[e2]
  have e3:bitsT [(0,(8-(k+3)%8)%8),(n,16),(65535-n,16)]=(8-(k+3)%8)%8+32:=by simp[bitsT]
  rw[e3];unfold padN;omega
 ·rw[if_neg (by omega)]
  have e:blkP (k%8) 1 n r l last=opnP k 1 n l last++toksP fixA 288 fixB 32 l:=by
   unfold blkP opnP;rw[if_pos rfl,if_pos rfl,List.append_nil]
  rw[e,bitsT_app]
  have hm:min (opnM 1 l) 286=286:=rfl
  have hn:min (opnN 1 l) 30=30:=rfl
  rw[hm,hn]
  have:=toks_cost fixA fixB 288 32 286 30 (by omega) l (fun t ht=>by
   obtain⟨h1,_,h3⟩:=sym_lt (hok t ht).1 (hok t ht).2
   exact⟨(hok t ht).1,(hok t ht).2,h1,fun h=>(h3 h).2.2.2⟩)
  show _+bitsT (toksP fixA 288 fixB 32 l)=_+(cstN (cntA l) fixA 286+cstN (cntB l) fixB 30+extT l)
  rw[this]
 ·rw[if_neg (by omega)]
  have e:blkP (k%8) 2 n r l last=opnP k 2 n l last++toksP (lnA l) (nA l) (lnB l) (nB l) l:=by
   unfold blkP opnP;rw[if_neg (show¬(2:Nat)=1 by omega),if_pos rfl,if_neg (show¬(2:Nat)=1 by omega),if_pos rfl,List.append_assoc]
  rw[e,bitsT_app]
  obtain⟨_,_,_,_,a1,a2,b1,b2,hA,hB⟩:=dyn_ok l (by omega)
  have hm:min (opnM 2 l) 286=nA l:=by show min (nA l) 286=nA l;omega
  have hn:min (opnN 2 l) 30=nB l:=by show min (nB l) 30=nB l;omega
  rw[hm,hn]
  have:=toks_cost (lnA l) (lnB l) (nA l) (nB l) (nA l) (nB l) (by omega) l (fun t ht=>by
   obtain⟨h1,_,h3⟩:=sym_lt (hok t ht).1 (hok t ht).2
   exact⟨(hok t ht).1,(hok t ht).2,(hA _ h1 (cntA_pos ht)).1,fun h=>(hB _ (h3 h).2.2.2 (cntB_pos ht h)).1⟩)
  show _+bitsT (toksP (lnA l) (nA l) (lnB l) (nB l) l)=_+(cstN (cntA l) (lnA l) (nA l)+cstN (cntB l) (lnB l) (nB l)+extT l)
  rw[this]
end Go.Proofs.YtokpcpjnihinfaaGreat
namespace Go.Proofs.YtokpcpjnihinfaaGreat
open Go.RowKit Go.ChangeShapes Go.WideShapes Go.ChangeAt Go.Joins
theorem built_rowL(k:Int):Tryz.prog.built 131 [(2,.int .i64 k)]=some #[.slice none 0 0,.int .u64 0,.int .i64 k]:=by kernel_rfl
theorem opnM_le(kind:Nat)(l:List Tok)(hl:l.length≤1000000):opnM kind l≤288∧opnN kind l≤32:=by
 obtain⟨_,_,_,_,a1,a2,b1,b2,_⟩:=dyn_ok l hl
 unfold opnM opnN
 constructor
 ·split
  ·omega
  ·split<;>omega
 ·split
  ·omega
  ·split<;>omega
theorem long11_any(w:World)(a kind n gc:Nat)(r:Nat→Nat)(l:List Tok)(ha:a≤7)(hkd:kind≤2)(hn:n≤65535)(hr:∀j,r j<256)(hgc:RowT w gc 317 (cntE l) 159)(hl:l.length≤65535)(hok:∀t∈l,mayT t=true∧t.x<256):
  Calls Tryz.prog 78 #[.int .i64 (a:Int),.int .u8 (kind:Int),.int .i64 (n:Int),.pointer (some ⟨gc,0,none⟩)] w fun e w'=>e=.returned (.int .i64 ((bitsT (blkP a kind n r l false):Nat):Int))∧Below w.heap.size w w':=by
 have hbb:=opn_bits a kind n r l false hkd hl hok
 rw[Nat.mod_eq_of_lt (show a<8 by omega)]at hbb
 have hble:=blkP_bits (a:=a) (last:=false) hkd hn hr hl hok
 obtain⟨om,on⟩:=opnM_le kind l (by omega)
 obtain⟨T,hT⟩:∃T,T=bitsT (blkP a kind n r l false):=⟨_,rfl⟩
 obtain⟨O,hO⟩:∃O,O=bitsT (opnP a kind n l false):=⟨_,rfl⟩
 rw[←hT]at hbb hble⊢
 rw[←hO]at hbb
 have hOT:O≤T:=by omega
 obtain⟨W1,hW1⟩:∃W,W=mkV w #[.slice none 0 0,.int .u64 0,.int .i64 0] #[.slice none 0 0,.int .u64 0,.int .i64 (a:Int)] 131:=⟨_,rfl⟩
 have b1:Below w.heap.size w W1:=by rw[hW1];exact mkV_below _ _ _ _
 have hrow:W1.heap[w.heap.size]?=some (.cells #[.slice none 0 0,.int .u64 0,.int .i64 (a:Int)] 131 (0,0)):=by rw[hW1];exact mkV_row w _ _ _
 obtain⟨S,hS⟩:∃S:Nat→Prop,S=fun j=>j<w.heap.size:=⟨_,rfl⟩
 have hra:RowAt W1 S w.heap.size w.heap.size (fun _=>0) a:=by
  refine⟨⟨fun _=>by show 0<256;omega,fun _ _=>rfl,Nat.two_pow_pos _⟩,none,0,?_⟩
  rw[show a/8=0 by omega,Nat.mod_eq_of_lt (show a<8 by omega)]
  exact⟨Nat.le_refl _,by have:=(Array.getElem?_eq_some_iff.1 hrow).1;omega,by rw[hS];omega,hrow,World.ownsRow_nil _ _ _ _,fun j h=>by simp[Value.ownBlock]at h,fun j h=>by rw[hS]at h;have:=b1.size;omega⟩
 have hSg:S gc:=by rw[hS];exact hgc.lt
 have hgc1:RowT W1 gc 317 (cntE l) 159:=hgc.below b1 hgc.lt
 have hop:=open11_any W1 S w.heap.size w.heap.size (fun _=>0) a n gc kind l false hra hkd hn (by omega) hSg hgc1 hl hok (by rw[←hO];omega)
 have hSa:∀j,j<w.heap.size→S j:=fun j hj=>by rw[hS];exact hj
 have HOP:=Lib.hid hop;have HO:=Lib.hid hO;have HBB:=Lib.hid hbb;have HW1:=Lib.hid hW1;have B1:=Lib.hid b1;have HGC1:=Lib.hid hgc1;have HSG:=Lib.hid hSg;have HSA:=Lib.hid hSa;have HOK:=Lib.hid hok
 clear hop hO hbb hW1 b1 hrow hra hSg hgc1 hgc hSa hS hT hok hr
 go_enter Tryz.func78,Tryz.ntmps78
 go_wp2_with (first
  |(refine wpList_buildTo rfl 131 #[(2,.tmp 13)] rfl (some 14) rfl #[.slice none 0 0,.int .u64 0,.int .i64 (a:Int)] ?_ ?_;focus(simpa[Act.eval]using built_rowL (a:Int)))
  |(refine wpList_store_rowTo rfl _ _ _ rfl rfl w.heap.size #[.slice none 0 0,.int .u64 0,.int .i64 (a:Int)] rfl rfl 131 #[.slice none 0 0,.int .u64 0,.int .i64 0] (heap_alloc_new w _) (szRow _ _ _) rfl (by simp[Value.oneCell']) ?_;change wpList _ _ _ _ _ (mkV w #[.slice none 0 0,.int .u64 0,.int .i64 0] #[.slice none 0 0,.int .u64 0,.int .i64 (a:Int)] 131);rw[←HW1.out])
  |fail)
 refine HOP.out.mono ?_
 rintro e w2 ⟨A1,c1,A2,c2,rfl,hr1,hr2,hrow2,hk2,hb2⟩
 rw[←HO.out]at hrow2
 have hbt:=rowbits_any w2 S w.heap.size w.heap.size _ (a+O) hrow2 (by omega)
 have HBT:=Lib.hid hbt
 have hgc2:RowT w2 gc 317 (cntE l) 159:=(hk2 gc HSG.out).trans HGC1.out
 obtain⟨M,hM⟩:∃M,M=opnM kind l:=⟨_,rfl⟩
 obtain⟨N,hN⟩:∃N,N=opnN kind l:=⟨_,rfl⟩
 rw[←hM]at hr1 om⊢
 rw[←hN]at hr2 on⊢
 have hbb:=HBB.out
 rw[←hM,←hN]at hbb
 have hcb:=cbits11_any w2.drew gc l hgc2.drew (by omega) HOK.out A1 M c1 (opnA kind l) A2 N c2 (opnB kind l) hr1 hr2 _ _ rfl rfl
 obtain⟨C,hC⟩:∃C,C=cstN (cntA l) (opnA kind l) (min M 286)+cstN (cntB l) (opnB kind l) (min N 30)+extT l:=⟨_,rfl⟩
 rw[←hC]at hcb hbb
 have HCB:=Lib.hid hcb
 have HB2:=Lib.hid (show Below w.heap.size w w2 from B1.out.trans hb2)
 have HBB2:=Lib.hid hbb
 clear hbt hrow2 hr1 hr2 hgc2 hM hN hC hcb hk2 hb2 HOP HBB hbb
 go_wp2_with fail
 refine HBT.out.mono ?_
 rintro e w3 ⟨rfl,rfl⟩
 have eO:((a+O:Nat):Int)-(a:Int)=(O:Int):=by omega
 by_cases hk0:kind=0
 ·subst hk0
  have hT0:T=O+8*n:=by rw[HBB2.out,if_pos rfl]
  clear HBB2 HCB HBT
  subst hT0
  have eO2:(a:Int)+(O:Int)-(a:Int)=(O:Int):=by omega
  go_wp2
  go_ret
  exact⟨by first|rfl|go_num,HB2.out.drew⟩
 ·have hkn:((kind:Int)==0)=false:=by rw[beq_eq_false_iff_ne];omega
  have hT0:T=O+C:=by rw[HBB2.out,if_neg hk0]
  clear HBB2 HBT
  subst hT0
  have eO2:(a:Int)+(O:Int)-(a:Int)=(O:Int):=by omega
  go_wp2_with fail
  refine HCB.out.mono ?_
  rintro e w4 ⟨rfl,hb4⟩
  have HB4:=Lib.hid (HB2.out.drew.trans (hb4.mono HB2.out.drew.size))
  clear hb4
  go_wp2
  go_ret
  exact⟨by first|rfl|go_num,HB4.out⟩
theorem long_con:LongCon:=by
 intro w a kind A1 rn rc r A2 m c2 l ha1 ha2 hkd hrr hrn hrt hm2 hin
 obtain⟨hm,hrt2,_⟩:=hrt
 obtain⟨V,hV⟩:∃V,V=lngV a kind rn r l:=⟨_,rfl⟩
 obtain⟨E,hE⟩:∃E,E=lngE a kind rn l:=⟨_,rfl⟩
 rw[←hV,←hE]
 have hV2:V=if E=0 then bitsT (blkP a.toNat kind rn r l false)else 0:=by rw[hV,hE];rfl
 clear hV
 have HB0:=Lib.hid (Below.refl w.heap.size w)
 by_cases y0:a<0
 ·have d0:decide (a<0)=true:=decY0 y0
  obtain rfl:E=2:=by rw[hE];unfold lngE;rw[if_pos (.inl y0)]
  obtain rfl:V=0:=by rw[hV2,if_neg (by omega)]
  clear hrr hrt2 hin hE hV2
  go_enter Tryz.func91,Tryz.ntmps91
  go_wp2
  go_ret2
  exact⟨rfl,HB0.out⟩
 have d0:decide (a<0)=false:=decN0 y0
 by_cases y1:7<a
 ·have d1:decide (7<a)=true:=decY0 y1
  obtain rfl:E=2:=by rw[hE];unfold lngE;rw[if_pos (.inr y1)]
  obtain rfl:V=0:=by rw[hV2,if_neg (by omega)]
  clear hrr hrt2 hin hE hV2
  go_enter Tryz.func91,Tryz.ntmps91
  go_wp2
  go_ret2
  exact⟨rfl,HB0.out⟩
 have d1:decide (7<a)=false:=decN0 y1
 have hE2:E=askW kind rn l:=by rw[hE];unfold lngE;rw[if_neg (by omega)]
 clear hE
 obtain⟨p,rfl⟩:=Int.eq_ofNat_of_zero_le (show 0≤a by omega)
 have hck:=check11_any w kind A1 rn rc A2 m c2 l hkd hm hrt2 hm2 hrn hin
 rw[←hE2]at hck
 have HCK:=Lib.hid hck
 by_cases he:E=0
 ·subst he
  obtain⟨k2,n2,l2,hmay⟩:=askW_ok hE2.symm
  have hok:∀t∈l,mayT t=true∧t.x<256:=fun t ht=>⟨hmay t ht,(hin t ht).1⟩
  rw[if_pos rfl,Int.toNat_natCast]at hV2
  have HOK:=Lib.hid hok;have HV2:=Lib.hid hV2;have HRT:=Lib.hid hrt2;have HM:=Lib.hid hm;have HR8:=Lib.hid hrr.1.1
  have hpp:p≤7:=by omega
  clear hck hE2 hok hV2 hrt2 hm hrr hin hmay
  go_enter Tryz.func91,Tryz.ntmps91
  go_wp2_with fail
  refine HCK.out.mono ?_
  rintro e w1 ⟨rfl,hb1⟩
  have hct:=count11_any w1 A2 m c2 l HM.out ((HRT.out.below hb1 (Nat.le_refl _)).more hb1.size) hm2 HOK.out
  have HCT:=Lib.hid hct;have HB1:=Lib.hid hb1
  clear hct hb1 HCK
  go_wp2_with fail
  refine HCT.out.mono ?_
  rintro e w2 ⟨rfl,hg,hb2⟩
  have hlg:=long11_any w2 p kind rn w1.heap.size r l hpp k2 n2 HR8.out hg l2 HOK.out
  rw[←HV2.out]at hlg
  have HLG:=Lib.hid hlg;have HB2:=Lib.hid (HB1.out.trans (hb2.mono HB1.out.size))
  clear hlg hb2 hg HCT
  go_wp2_with fail
  refine HLG.out.mono ?_
  rintro e w3 ⟨rfl,hb3⟩
  have HB3:=Lib.hid (HB2.out.trans (hb3.mono HB2.out.size))
  clear hb3
  go_wp2
  go_ret2
  exact⟨rfl,HB3.out⟩
 ·obtain rfl:V=0:=by rw[hV2,if_neg he]
  have hen:(E==0)=false:=by rw[beq_eq_false_iff_ne];exact he
  clear hck hE2 hV2 hrt2 hm hrr hin
  go_enter Tryz.func91,Tryz.ntmps91
  go_wp2_with fail
  refine HCK.out.mono ?_
  rintro e w1 ⟨rfl,hb1⟩
  have HB1:=Lib.hid hb1
  clear hb1
  go_wp2
  go_ret2
  exact⟨rfl,HB1.out⟩
theorem best_con:BestCon:=by
 intro w a A1 rn rc r A2 m c2 l ha1 ha2 hrr hrn hrt hm2 hin
 obtain⟨hm,hrt2,_⟩:=hrt
 obtain⟨V,hV⟩:∃V,V=bestV a rn r l:=⟨_,rfl⟩
 obtain⟨E,hE⟩:∃E,E=bestE a rn l:=⟨_,rfl⟩
 rw[←hV,←hE]
 have hV2:V=if E=0 then bestK a.toNat rn r l else 0:=by rw[hV,hE];rfl
 clear hV
 have HB0:=Lib.hid (Below.refl w.heap.size w)
 by_cases y0:a<0
 ·have d0:decide (a<0)=true:=decY0 y0
  obtain rfl:E=2:=by rw[hE];unfold bestE lngE;rw[if_pos (.inl y0)]
  obtain rfl:V=0:=by rw[hV2,if_neg (by omega)]
  clear hrr hrt2 hin hE hV2
  go_enter Tryz.func61,Tryz.ntmps61
  go_wp2
  go_ret2
  exact⟨rfl,HB0.out⟩
 have d0:decide (a<0)=false:=decN0 y0
 by_cases y1:7<a
 ·have d1:decide (7<a)=true:=decY0 y1
  obtain rfl:E=2:=by rw[hE];unfold bestE lngE;rw[if_pos (.inr y1)]
  obtain rfl:V=0:=by rw[hV2,if_neg (by omega)]
  clear hrr hrt2 hin hE hV2
  go_enter Tryz.func61,Tryz.ntmps61
  go_wp2
  go_ret2
  exact⟨rfl,HB0.out⟩
 have d1:decide (7<a)=false:=decN0 y1
 have hE2:E=askW 0 rn l:=by rw[hE];unfold bestE lngE;rw[if_neg (by omega)]
 clear hE
 obtain⟨p,rfl⟩:=Int.eq_ofNat_of_zero_le (show 0≤a by omega)
 have hck:=check11_any w 0 A1 rn rc A2 m c2 l (by omega) hm hrt2 hm2 hrn hin
 rw[←hE2]at hck
 have HCK:=Lib.hid hck
 by_cases he:E=0
 ·subst he
  obtain⟨_,n2,l2,hmay⟩:=askW_ok hE2.symm
  have hok:∀t∈l,mayT t=true∧t.x<256:=fun t ht=>⟨hmay t ht,(hin t ht).1⟩
  rw[if_pos rfl,Int.toNat_natCast]at hV2
  have hpp:p≤7:=by omega
  obtain⟨f,hf⟩:∃f:Nat→Nat,f=fun k=>bitsT (blkP p k rn r l false):=⟨_,rfl⟩
  have hVf:V=shF f 2:=by rw[hV2,hf];rfl
  have hlong:∀(U:World) (gc k:Nat),k≤2→RowT U gc 317 (cntE l) 159→Calls Tryz.prog 78 #[.int .i64 (p:Int),.int .u8 (k:Int),.int .i64 (rn:Int),.pointer (some ⟨gc,0,none⟩)] U fun e w'=>e=.returned (.int .i64 ((f k:Nat):Int))∧Below U.heap.size U w':=fun U gc k hk hg=>by
   rw[hf]
   exact long11_any U p k rn gc r l hpp hk n2 hrr.1.1 hg l2 hok
  have hfb:∀k,k≤2→f k≤4320000:=fun k hk=>by rw[hf];exact blkP_bits hk n2 hrr.1.1 l2 hok
  have HOK:=Lib.hid hok;have HVF:=Lib.hid hVf;have HRT:=Lib.hid hrt2;have HM:=Lib.hid hm;have HLONG:=Lib.hid hlong;have HFB:=Lib.hid hfb
  clear hck hE2 hok hV2 hrt2 hm hrr hin hmay hf hVf hlong hfb
  go_enter Tryz.func61,Tryz.ntmps61
  go_wp2_with fail
  refine HCK.out.mono ?_
  rintro e w1 ⟨rfl,hb1⟩
  have hct:=count11_any w1 A2 m c2 l HM.out ((HRT.out.below hb1 (Nat.le_refl _)).more hb1.size) hm2 HOK.out
  have HCT:=Lib.hid hct;have HB1:=Lib.hid hb1
  clear hct hb1 HCK
  go_wp2_with fail
  refine HCT.out.mono ?_
  rintro e w2 ⟨rfl,hg,hb2⟩
  have hlg:=HLONG.out w2 w1.heap.size 0 (by omega) hg
  have HLG:=Lib.hid hlg;have HB2:=Lib.hid (HB1.out.trans (hb2.mono HB1.out.size));have HGC:=Lib.hid hg
  clear hlg hb2 hg HCT
  go_wp2_with fail
  refine HLG.out.mono ?_
  rintro e w3 ⟨rfl,hb3⟩
  have HB3:=Lib.hid (HB2.out.trans (hb3.mono HB2.out.size));have HG3:=Lib.hid (HGC.out.below hb3 HGC.out.lt)
  clear hb3 HLG HGC
  obtain⟨gc,hgce⟩:∃g,g=w1.heap.size:=⟨_,rfl⟩
  rw[←hgce]at HG3⊢
  clear hgce
  obtain⟨W4,hW4⟩:∃W,W=w3.alloc (.cells #[.int .u8 1,.int .u8 2] 5):=⟨_,rfl⟩
  have b4:Below w3.heap.size w3 W4:=by rw[hW4];exact(Below.refl _ _).alloc (Nat.le_refl _) _
  have hnew:W4.heap[w3.heap.size]?=some (.cells #[.int .u8 1,.int .u8 2] 5 (0,0)):=by rw[hW4];exact heap_alloc_new w3 _
  have HW4:=Lib.hid hW4;have HG4:=Lib.hid (HG3.out.below b4 HG3.out.lt);have HB4:=Lib.hid (HB3.out.trans (b4.mono HB3.out.size));have HN:=Lib.hid hnew
  clear hW4 b4 hnew HG3
  go_wp2_with (first|rw[←HW4.out]|fail)
  go_loopw [10,11,36] (fun kv nv iv wr=>∃(i s:Nat),i≤2∧s≤2∧Hid (s=shF f i)∧kv=.int .u8 (s:Int)∧nv=.int .i64 ((f s:Nat):Int)∧iv=.int .i64 (i:Int)∧Hid (Below W4.heap.size W4 wr)) (fun _ _ iv _=>2-(intOf iv).toNat)
  case atStart=>exact⟨0,0,by omega,by omega,Lib.hid rfl,rfl,rfl,rfl,Lib.hid (Below.refl _ _)⟩
  case round=>
   obtain⟨i,s,hi,hs2,HS,rfl,rfl,rfl,HB⟩:=hrel
   have hlt4:w3.heap.size<W4.heap.size:=(Array.getElem?_eq_some_iff.1 HN.out).1
   by_cases hlt:i<2
   ·have hlti:(i:Int)<2:=by omega
    have hc0:wr.cell? ⟨w3.heap.size,i,none⟩=some (.int .u8 ((i+1:Nat):Int)):=by
     rw[HB.out.cell (p:=⟨w3.heap.size,i,none⟩) hlt4,cell_of_row W4 w3.heap.size i _ _ (0,0) HN.out]
     rcases i with _|_|i
     ·rfl
     ·rfl
     ·omega
    obtain⟨j,hj⟩:∃j,j=i+1:=⟨_,rfl⟩
    rw[←hj]at hc0
    have hsh:shF f j=if f j<f s then j else s:=by rw[hj,HS.out];rfl
    have hlg:=HLONG.out wr gc j (by omega) (HG4.out.below HB.out HG4.out.lt)
    have hf1:=HFB.out j (by omega)
    have hf2:=HFB.out s hs2
    obtain⟨x,hx⟩:∃x,x=f j:=⟨_,rfl⟩
    obtain⟨y,hy⟩:∃y,y=f s:=⟨_,rfl⟩
    rw[←hx]at hlg hf1 hsh
    rw[←hy]at hf2 hsh⊢
    have HLG:=Lib.hid hlg;have HSH:=Lib.hid hsh;have HX:=Lib.hid hx;have HY:=Lib.hid hy;have HJ:=Lib.hid hj
    have hj2:j≤2:=by omega
    clear hlg hsh hx hy hj
    go_wp2_with fail
    refine HLG.out.mono ?_
    rintro e w5 ⟨rfl,hb5⟩
    have HB5:=Lib.hid (HB.out.trans (hb5.mono HB.out.size))
    clear hb5
    by_cases hxy:x<y
    ·have hxi:(x:Int)<(y:Int):=by omega
     go_wp2
     go_roundw
     case rel=>exact⟨i+1,j,by omega,hj2,Lib.hid (by rw[←HJ.out,HSH.out,if_pos hxy]),rfl,by rw[HX.out],by go_num,HB5⟩
     case measure=>simp[intOf];omega
    ·have hxi:¬(x:Int)<(y:Int):=by omega
     go_wp2
     go_roundw
     case rel=>exact⟨i+1,s,by omega,hs2,Lib.hid (by rw[←HJ.out,HSH.out,if_neg hxy]),rfl,by rw[HY.out],by go_num,HB5⟩
     case measure=>simp[intOf];omega
   ·obtain rfl:i=2:=by omega
    have hlti:¬((2:Nat):Int)<2:=by omega
    obtain rfl:s=V:=by rw[HS.out,HVF.out]
    have HBF:=Lib.hid (HB4.out.trans (HB.out.mono HB4.out.size))
    go_wp2
    go_ret2
    exact⟨rfl,HBF.out⟩
 ·obtain rfl:V=0:=by rw[hV2,if_neg he]
  have hen:(E==0)=false:=by rw[beq_eq_false_iff_ne];exact he
  clear hck hE2 hV2 hrt2 hm hrr hin
  go_enter Tryz.func61,Tryz.ntmps61
  go_wp2_with fail
  refine HCK.out.mono ?_
  rintro e w1 ⟨rfl,hb1⟩
  have HB1:=Lib.hid hb1
  clear hb1
  go_wp2
  go_ret2
  exact⟨rfl,HB1.out⟩
end Go.Proofs.YtokpcpjnihinfaaGreat
