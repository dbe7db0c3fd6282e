/-
  Words and walks.
-/
import Derived.BigRegion
import Derived.Great.BuildSlice
import Derived.Test.YtgokdgcmkcmjeaaGreatpbab
import Derived.Test.YtgokdgcmkcmjeaaGreatpbam
import Derived.Test.YtgokdgcmkcmjeaaGreatpbaw
import Derived.Test.YtgokdgcmkcmjeaaGreatpbbe
set_option maxRecDepth 100000
set_option maxHeartbeats 16000000
namespace Go.Proofs.YtgokdgcmkcmjeaaGreat
open Go.RowKit Go.ChangeShapes Go.WideShapes Go.ChangeAt Go.Joins
def extK(t:Tok):Nat:=if t.n=0 then 0 else(lgB t.n).toNat+(frB t.d).toNat
def extT(l:List Tok):Nat:=(l.map extK).sum
theorem extT_one(l:List Tok)(t:Tok):extT (l++[t])=extT l+extK t:=by unfold extT;simp
def cntL(l:List Tok)(i:Nat):Nat:=if i<286 then l.countP (fun t=>decide (symA t=i))else if i<316 then cntB l (i-286)else extT l
theorem cntL_one(l:List Tok)(t:Tok)(i:Nat):cntL (l++[t]) i=cntL l i+(if i<286 then(if symA t=i then 1 else 0)else if i<316 then(if t.n≠0∧symB t=i-286 then 1 else 0)else extK t):=by
 unfold cntL
 split
 ·rw[List.countP_append,List.countP_singleton];simp only[decide_eq_true_eq]
 ·split
  ·rw[cntB_one]
  ·rw[extT_one]
theorem cntL_le(l:List Tok)(i:Nat)(hi:i<316):cntL l i≤l.length:=by
 unfold cntL
 split
 ·exact List.countP_le_length
 ·exact cntB_le _ _
theorem extK_le{t:Tok}(h:mayT t=true)(hx:t.x<256):extK t≤18:=by
 unfold extK
 by_cases h0:t.n=0
 ·rw[if_pos h0];omega
 ·rw[if_neg h0]
  obtain⟨hE1,hE2,_⟩:=(sym_lt h hx).2.2 h0
  obtain⟨_,_,_,_,_,_,p3,p4⟩:=long_there hE1
  obtain⟨_,_,_,_,_,_,q3,q4⟩:=far_there hE2
  omega
theorem extT_le:∀l:List Tok,(∀t∈l,mayT t=true∧t.x<256)→extT l≤18*l.length
 |[],_=>by simp[extT]
 |t::l,h=>by
  have h1:=extK_le (h t List.mem_cons_self).1 (h t List.mem_cons_self).2
  have h2:=extT_le l fun u hu=>h u (List.mem_cons_of_mem _ hu)
  have e:extT (t::l)=extK t+extT l:=by simp[extT]
  rw[e,List.length_cons];omega
def cntE(l:List Tok)(i:Nat):Nat:=if i=256 then 1 else cntL l i
theorem cntE_A{l:List Tok}(h:∀t∈l,mayT t=true∧t.x<256){i:Nat}(hi:i<286):cntE l i=cntA l i:=by
 unfold cntE cntA cntL
 by_cases e:i=256
 ·subst e
  rw[if_pos rfl,if_pos rfl]
  have:l.countP (fun t=>decide (symA t=256))=0:=by
   rw[List.countP_eq_zero]
   intro t ht
   obtain⟨_,h1,h2⟩:=sym_lt (h t ht).1 (h t ht).2
   have hx:=(h t ht).2
   simp only[decide_eq_true_eq]
   by_cases h0:t.n=0
   ·have:=h1 h0;omega
   ·have:=(h2 h0).2.2.1;omega
  omega
 ·rw[if_neg e,if_pos hi,if_neg e];omega
theorem cntE_B(l:List Tok){i:Nat}(hi:i<30):cntE l (286+i)=cntB l i:=by
 unfold cntE cntL
 rw[if_neg (by omega),if_neg (by omega),if_pos (by omega),show 286+i-286=i by omega]
theorem builtCounts:Tryz.prog.built 153 []=some (tblA (fun _=>0) 317):=by kernel_rfl
theorem count11_any(w:World)(A:Option Addr)(m c:Nat)(l:List Tok)(hm:m=l.length)(hr:RdT w w.heap.size A l)(hm2:m≤1000000)(hok:∀t∈l,mayT t=true∧t.x<256):
  Calls Tryz.prog 46 #[.slice A m c] w fun e w'=>e=.returned (.pointer (some ⟨w.heap.size,0,none⟩))∧RowT w' w.heap.size 317 (cntE l) 153∧Below w.heap.size w w':=by
 have hbu:=builtCounts
 obtain⟨Z,hZ⟩:∃Z:Array Value,Z=tblA (fun _=>0) 317:=⟨_,rfl⟩
 rw[←hZ]at hbu
 obtain⟨h,hh⟩:∃h,h=w.heap.size:=⟨_,rfl⟩
 obtain⟨W1,hW1⟩:∃W,W=w.alloc (.cells Z 153):=⟨_,rfl⟩
 have hb1:Below h w W1:=by rw[hW1,hh];exact(Below.refl _ _).alloc (Nat.le_refl _) _
 have hr1:RowT W1 h 317 (cntL (l.take 0)) 153:=by
  unfold RowT
  rw[hW1,hh,heap_alloc_new,hZ]
  refine congrArg (fun a=>some (Obj.cells a 153 (0,0))) (tbl_ext fun k hk=>?_)
  simp[cntL,cntB,extT]
 rw[←hh]at hr⊢
 have HM:=Lib.hid hm;have HR:=Lib.hid hr;have HOK:=Lib.hid hok;have HB1:=Lib.hid hb1;have HR1:=Lib.hid hr1;have HW1:=Lib.hid hW1;have HH:=Lib.hid hh;have HBU:=Lib.hid hbu
 clear hm hr hok hb1 hr1 hW1 hh hZ hbu
 go_enter Tryz.func46,Tryz.ntmps46
 go_wp2_with (first|(refine wpList_buildTo rfl 153 #[] rfl (some 14) rfl Z ?_ ?_;focus(simpa[Act.eval]using HBU.out))|rw[←HW1.out,←HH.out]|fail)
 go_loopw [18] (fun iv wr=>∃i:Nat,i≤m∧iv=.int .i64 (i:Int)∧Hid (RowT wr h 317 (cntL (l.take i)) 153)∧Hid (Below h w wr)) (fun iv _=>m-(intOf iv).toNat)
 case atStart=>exact⟨0,Nat.zero_le _,rfl,HR1,HB1⟩
 case round=>
  obtain⟨i,hi,rfl,HRW,HB⟩:=hrel
  have hle:w.heap.size=h:=HH.out.symm
  have hgl:h<wr.heap.size:=HRW.out.lt
  by_cases hlt:i<m
  ·have hlti:(i:Int)<(m:Int):=by omega
   have hil:i<l.length:=by rw[←HM.out];exact hlt
   have htw:RdT wr h A l:=HR.out.below HB.out (Nat.le_refl _)
   obtain⟨b,o,rfl,hbl,hc⟩:=htw.at hil
   have hrg:=htw.range rfl hil
   have hmem:l.getD i tok0∈l:=by rw[List.getD_eq_getElem?_getD,List.getElem?_eq_getElem hil];exact List.getElem_mem hil
   obtain⟨hmy,hx8⟩:=HOK.out _ hmem
   have htk:=take_one hil
   have htl:(l.take i).length≤1000000:=by rw[List.length_take];omega
   have hokt:∀t∈l.take i,mayT t=true∧t.x<256:=fun t ht=>HOK.out t (List.mem_of_mem_take ht)
   have hxt:=extT_le _ hokt
   obtain⟨t,ht⟩:∃t,t=l.getD i tok0:=⟨_,rfl⟩
   rw[←ht]at hrg hmy hx8 htk
   have hstep:=cntL_one (l.take i) t
   rw[←htk]at hstep
   have hcl:=cntL_le (l.take i)
   have hcx:cntL (l.take i) 316=extT (l.take i):=by unfold cntL;rw[if_neg (by omega),if_neg (by omega)]
   obtain⟨C,hC⟩:∃C,C=cntL (l.take i):=⟨_,rfl⟩
   have hr:=HRW.out
   rw[←hC]at hstep hcl hcx hr
   obtain⟨W3,hW3⟩:∃W3,W3=mkV wr #[.int .u8 0,.int .i64 0,.int .i64 0] (tokC t).toArray 36:=⟨_,rfl⟩
   have hb3:Below wr.heap.size wr W3:=by rw[hW3];exact mkV_below _ _ _ _
   have hrow:W3.heap[wr.heap.size]?=some (.cells (tokC t).toArray 36 (0,0)):=by rw[hW3];exact mkV_row wr _ _ _
   have y0:W3.cell? ⟨wr.heap.size,0,none⟩=some (.int .u8 (t.x:Int)):=(cell_of_row W3 _ 0 _ _ (0,0) hrow).trans rfl
   have y1:W3.cell? ⟨wr.heap.size,1,none⟩=some (.int .i64 t.d):=(cell_of_row W3 _ 1 _ _ (0,0) hrow).trans rfl
   have y2:W3.cell? ⟨wr.heap.size,2,none⟩=some (.int .i64 t.n):=(cell_of_row W3 _ 2 _ _ (0,0) hrow).trans rfl
   have hr3:=hr.below hb3 hr.lt
   have HRG:=Lib.hid hrg;have HSTEP:=Lib.hid hstep;have HCL:=Lib.hid hcl;have HCX:=Lib.hid hcx;have HXT:=Lib.hid hxt;have HMY:=Lib.hid hmy;have HR3:=Lib.hid hr3;have HB3:=Lib.hid (HB.out.trans (hb3.mono (by omega)));have HW3:=Lib.hid hW3
   have hhs:wr.heap.size<W3.heap.size:=(Array.getElem?_eq_some_iff.1 hrow).1
   by_cases h0:t.n=0
   ·have hn0:(t.n==0)=true:=by rw[h0];rfl
    obtain⟨hs1,hs2,_⟩:=sym_lt hmy hx8
    have hsx:=hs2 h0
    have k1:=hr3.cell (i:=t.x) (by omega)
    have z1:=hr3.frozen t.x
    have hcb:=hcl t.x (by omega)
    have hset:=hr3.set (T':=cntL (l.take (i+1))) t.x (C t.x+1) (fun k hk=>by
     rw[hstep k,hsx]
     have e1:extK t=0:=by unfold extK;rw[if_pos h0]
     rw[e1]
     by_cases hkx:k=t.x
     ·subst hkx;rw[if_pos rfl,if_pos (by omega),if_pos rfl]
     ·rw[if_neg hkx]
      by_cases h1:k<286
      ·rw[if_pos h1,if_neg (fun e=>hkx e.symm)];rfl
      ·rw[if_neg h1]
       by_cases h2:k<316
       ·rw[if_pos h2,if_neg (fun e=>e.1 h0)];rfl
       ·rw[if_neg h2];rfl)
    obtain⟨q,hq⟩:∃q,q=t.x:=⟨_,rfl⟩
    obtain⟨V,hV⟩:∃V,V=C q:=⟨_,rfl⟩
    rw[←hq]at k1 z1 hcb hset y0 hx8
    rw[←hV]at k1 hset hcb
    have eV:((V+1:Nat):Int)=(V:Int)+1:=by omega
    rw[eV]at hset
    have hVb:V≤1000000:=by omega
    have hq86:(q:Int)<286:=by omega
    have HSET:=Lib.hid hset.drew
    clear hrg hstep hcl hcx hxt hr3 hb3 hrow hW3 htk ht hC htl hokt htw hc hr hset hV hq hs1 hs2 hsx hmem hmy HCL
    go_wp2_with (first|refine wpList_load_mid rfl _ _ rfl b (o+i*3) rfl (tokC t) _ HRG.out Tryz.underlying36 rfl szTok ?_|refine wpList_store_rowTo rfl _ _ _ rfl rfl wr.heap.size (tokC t).toArray rfl rfl 36 #[.int .u8 0,.int .i64 0,.int .i64 0] (heap_alloc_new wr _) (szTokA _) rfl (tokA_one _) ?_;change wpList _ _ _ _ _ (mkV wr #[.int .u8 0,.int .i64 0,.int .i64 0] (tokC t).toArray 36);rw[←HW3.out])
    go_region
    go_wp2
    go_roundw
    case rel=>exact⟨i+1,by omega,by go_num,HSET,Lib.hid (HB3.out.setCell (Nat.le_refl _) _).drew⟩
    case measure=>simp[intOf];omega
   ·have hn0:(t.n==0)=false:=by rw[beq_eq_false_iff_ne];exact h0
    obtain⟨_,_,hs3⟩:=sym_lt hmy hx8
    obtain⟨hE1,hE2,hs4,hs5⟩:=hs3 h0
    have hs1:=(sym_lt hmy hx8).1
    obtain⟨_,_,_,_,_,_,p3,p4⟩:=long_there hE1
    obtain⟨_,_,_,_,_,_,q3,q4⟩:=far_there hE2
    obtain⟨S,hS⟩:∃S,S=symA t:=⟨_,rfl⟩
    obtain⟨D,hD⟩:∃D,D=symB t:=⟨_,rfl⟩
    have eS:lgS t.n=(S:Int):=by
     have h5:3≤t.n∧t.n≤258:=lg_ok hE1
     have:0≤lgS t.n:=by unfold lgS;rw[if_pos h5];omega
     rw[hS];unfold symA;rw[if_neg h0];omega
    have eD:frS t.d=(D:Int):=by
     have h5:1≤t.d∧t.d≤32768:=fr_ok hE2
     have:0≤frS t.d:=by unfold frS;rw[if_pos h5];omega
     rw[hD];unfold symB;omega
    obtain⟨u,eu⟩:=Int.eq_ofNat_of_zero_le p3
    obtain⟨v,ev⟩:=Int.eq_ofNat_of_zero_le q3
    have hek:extK t=u+v:=by unfold extK;rw[if_neg h0,eu,ev];rfl
    have hlg:=fun V:World=>long9_any V t.n
    have hfr:=fun V:World=>far9_any V t.d
    rw[eS,eu,hE1]at hlg
    rw[eD,ev,hE2]at hfr
    rw[eu]at p4;rw[ev]at q4
    rw[←hS]at hs1 hs4;rw[←hD]at hs5
    have hcS:=hcl S (by omega)
    have hcD:=hcl (286+D) (by omega)
    obtain⟨VS,hVS⟩:∃V,V=C S:=⟨_,rfl⟩
    obtain⟨VD,hVD⟩:∃V,V=C (286+D):=⟨_,rfl⟩
    obtain⟨VX,hVX⟩:∃V,V=C 316:=⟨_,rfl⟩
    rw[←hVS]at hcS;rw[←hVD]at hcD;rw[←hVX]at hcx
    have hVSb:VS≤1000000:=by omega
    have hVDb:VD≤1000000:=by omega
    have hVXb:VX≤18000000:=by omega
    have HLG:=Lib.hid hlg;have HFR:=Lib.hid hfr;have HVS:=Lib.hid hVS;have HVD:=Lib.hid hVD;have HVX:=Lib.hid hVX;have HEK:=Lib.hid hek;have HS:=Lib.hid hS;have HD:=Lib.hid hD
    clear hlg hfr hVS hVD hVX hek hS hD eS eD eu ev hE1 hE2 hs3 hcS hcD hcx hrg hstep hcl hxt hr3 hb3 hrow hW3 htk ht hC htl hokt htw hc hr hmem hmy HCL HCX HXT y0 hx8
    go_wp2_with (first|refine wpList_load_mid rfl _ _ rfl b (o+i*3) rfl (tokC t) _ HRG.out Tryz.underlying36 rfl szTok ?_|refine wpList_store_rowTo rfl _ _ _ rfl rfl wr.heap.size (tokC t).toArray rfl rfl 36 #[.int .u8 0,.int .i64 0,.int .i64 0] (heap_alloc_new wr _) (szTokA _) rfl (tokA_one _) ?_;change wpList _ _ _ _ _ (mkV wr #[.int .u8 0,.int .i64 0,.int .i64 0] (tokC t).toArray 36);rw[←HW3.out]|fail)
    refine(HLG.out W3).mono ?_
    rintro e w4 ⟨rfl,hb4⟩
    have y1':=(hb4.cell (p:=⟨wr.heap.size,1,none⟩) hhs).trans y1
    have HR4:=Lib.hid (HR3.out.below hb4 (by have:=HB3.out.size;omega));have HB4:=Lib.hid (HB3.out.trans (hb4.mono (by have:=HR3.out.lt;omega)))
    clear hb4 y1 y2 HR3 HB3 hhs
    go_wp2_with fail
    refine(HFR.out w4).mono ?_
    rintro e w5 ⟨rfl,hb5⟩
    have hr5:=HR4.out.below hb5 HR4.out.lt
    have HB5:=Lib.hid (HB4.out.trans (hb5.mono (by have:=HR4.out.lt;omega)))
    clear hb5 y1' HR4 HB4
    have k1:=hr5.cell (i:=S) (by omega)
    have z1:=hr5.frozen S
    rw[←HVS.out]at k1
    have hr6:=(hr5.set (T':=fun k=>if k=S then VS+1 else C k) S (VS+1) (fun _ _=>rfl)).drew
    have eVS:((VS+1:Nat):Int)=(VS:Int)+1:=by omega
    rw[eVS]at hr6
    obtain⟨W6,hW6⟩:∃W,W=(w5.setCell ⟨h,S,none⟩ (.int .i64 ((VS:Int)+1))).drew:=⟨_,rfl⟩
    rw[←hW6]at hr6
    have k2:=hr6.cell (i:=286+D) (by omega)
    rw[if_neg (by omega),←HVD.out]at k2
    have z2:=hr6.frozen (286+D)
    have hr7:=(hr6.set (T':=fun k=>if k=286+D then VD+1 else if k=S then VS+1 else C k) (286+D) (VD+1) (fun _ _=>rfl)).drew
    have eVD:((VD+1:Nat):Int)=(VD:Int)+1:=by omega
    rw[eVD]at hr7
    obtain⟨W7,hW7⟩:∃W,W=(W6.setCell ⟨h,286+D,none⟩ (.int .i64 ((VD:Int)+1))).drew:=⟨_,rfl⟩
    rw[←hW7]at hr7
    have k3:=hr7.cell (i:=316) (by omega)
    rw[if_neg (by omega),if_neg (by omega),←HVX.out]at k3
    have z3:=hr7.frozen 316
    have hr8:=hr7.set (T':=cntL (l.take (i+1))) 316 (VX+(u+v)) (fun k hk=>by
     rw[HSTEP.out k,HEK.out,←HS.out,←HD.out]
     by_cases h1:k=316
     ·subst h1;rw[if_pos rfl,if_neg (by omega),if_neg (by omega),HVX.out]
     ·rw[if_neg h1]
      by_cases h2:k=286+D
      ·rw[if_pos h2,if_neg (by omega),if_pos (by omega),if_pos ⟨h0,by omega⟩,HVD.out,h2]
      ·rw[if_neg h2]
       by_cases h3:k=S
       ·rw[if_pos h3,if_pos (by omega),if_pos h3.symm,HVS.out,h3]
       ·rw[if_neg h3]
        by_cases h4:k<286
        ·rw[if_pos h4,if_neg (fun e=>h3 e.symm)];rfl
        ·rw[if_neg h4,if_pos (by omega),if_neg (fun e=>h2 (by omega))];rfl)
    have eVX:((VX+(u+v):Nat):Int)=(VX:Int)+((u:Int)+(v:Int)):=by omega
    rw[eVX]at hr8
    have hb6:Below h w W6:=by rw[hW6];exact(HB5.out.setCell (Nat.le_refl _) _).drew
    have hb7:Below h w W7:=by rw[hW7];exact(hb6.setCell (Nat.le_refl _) _).drew
    have HR8:=Lib.hid hr8;have HB8:=Lib.hid (hb7.setCell (p:=⟨h,316,none⟩) (Nat.le_refl _) (.int .i64 ((VX:Int)+((u:Int)+(v:Int)))));have HW6:=Lib.hid hW6;have HW7:=Lib.hid hW7
    have hSi:(S:Int)<286:=by omega
    have hDi:(D:Int)<30:=by omega
    clear hr5 hr6 hr7 hr8 hb6 hb7 hW6 hW7 eVS eVD eVX
    go_wp2
    go_region
    rw[←HW6.out]
    go_wp2
    go_region
    rw[←HW7.out]
    go_wp2
    go_roundw
    case rel=>exact⟨i+1,by omega,by go_num,HR8,HB8⟩
    case measure=>simp[intOf];omega
  ·obtain rfl:i=m:=by omega
   have hlti:¬(i:Int)<(i:Int):=by omega
   have hr:=HRW.out
   rw[HM.out,List.take_length]at hr
   have k1:=hr.cell (i:=256) (by omega)
   have z1:=hr.frozen 256
   have hset:=hr.set (T':=cntE l) 256 1 (fun k _=>by unfold cntE;rfl)
   have HSET:=Lib.hid hset
   clear hset hr
   go_wp2
   go_ret
   exact⟨rfl,HSET.out,HB.out.setCell (Nat.le_refl _) _⟩
end Go.Proofs.YtgokdgcmkcmjeaaGreat
namespace Go.Proofs.YtgokdgcmkcmjeaaGreat
open Go.RowKit Go.ChangeShapes Go.WideShapes Go.ChangeAt Go.Joins
theorem frq_ext{c d:Nat→Nat}{n:Nat}(h:∀i,i<n→c i=d i):frqL c n=frqL d n:=by
 unfold frqL
 exact List.map_congr_left fun i hi=>by rw[h i (List.mem_range.1 hi)]
theorem RdB.part{w:World}{B n m:Nat}{A:Option Addr}{f:Nat→Nat}(h:RdB w B A n f)(hm:m≤n):RdB w B A m f:=⟨h.1,fun h0=>by
 obtain⟨b,o,e,hb,hc⟩:=h.2 (by omega)
 exact⟨b,o,e,hb,fun j hj=>hc j (by omega)⟩⟩
theorem least11_any(w:World)(g:Nat)(l:List Tok)(hg:RowT w g 317 (cntE l) 153)(hl:l.length≤1000000)(hok:∀t∈l,mayT t=true∧t.x<256):
  Calls Tryz.prog 88 #[.pointer (some ⟨g,0,none⟩)] w fun e w'=>∃A1 c1 A2 c2,e=.returned (.tuple #[.slice A1 (nA l) c1,.slice A2 (nB l) c2])∧ByR w' w'.heap.size A1 (nA l) c1 (lnA l)∧ByR w' w'.heap.size A2 (nB l) c2 (lnB l)∧(∀b o,A1=some ⟨b,o,none⟩→w.heap.size≤b)∧(∀b o,A2=some ⟨b,o,none⟩→w.heap.size≤b)∧Below w.heap.size w w':=by
 obtain⟨e1,e2⟩:=len_ask (c:=cntA l) (n:=286) (most:=15) (by omega) (by omega) (by omega) (by decide) (fun i=>by have:=cntA_le l i;omega)
 obtain⟨e3,e4⟩:=len_ask (c:=cntB l) (n:=30) (most:=15) (by omega) (by omega) (by omega) (by decide) (fun i=>by have:=cntB_le l i;omega)
 rw[show((15:Nat):Int)=15 from rfl]at e1 e2 e3 e4
 obtain⟨_,_,_,_,a1,a2,b1,b2,_⟩:=dyn_ok l hl
 have hr1:RdI w w.heap.size (some ⟨g,0,none⟩) (frqL (cntA l) 286):=by
  have:=hg.rd 0 286 (by omega)
  rwa[frq_ext (d:=cntA l) (fun i hi=>by rw[Nat.zero_add];exact cntE_A hok hi)]at this
 have hr2:RdI w w.heap.size (some ⟨g,286,none⟩) (frqL (cntB l) 30):=by
  have:=hg.rd 286 30 (by omega)
  rwa[frq_ext (d:=cntB l) (fun i hi=>cntE_B l hi)]at this
 have h1:=lengths_room w (some ⟨g,0,none⟩) 286 (frqL (cntA l) 286) 15 hr1 (fun h=>by cases h) (by rw[frqL_length];omega) (fun j hj=>by rw[frqL_length]at hj;rw[frqL_get _ hj];have:=cntA_le l j;omega) (by omega) (by omega)
 rw[frqL_length,e1,e2]at h1
 have h2:=fun(V:World) (hV:Below w.heap.size w V)=>lengths_room V (some ⟨g,286,none⟩) 30 (frqL (cntB l) 30) 15 ((hr2.below hV (Nat.le_refl _)).more hV.size) (fun h=>by cases h) (by rw[frqL_length];omega) (fun j hj=>by rw[frqL_length]at hj;rw[frqL_get _ hj];have:=cntB_le l j;omega) (by omega) (by omega)
 rw[frqL_length,e3,e4]at h2
 have H1:=Lib.hid h1;have H2:=Lib.hid h2
 have nAe:nA l=cutN (lenM (cntA l) 286 15) 257 286:=rfl
 have nBe:nB l=cutN (lenM (cntB l) 30 15) 1 30:=rfl
 have lAe:lnA l=lenM (cntA l) 286 15:=rfl
 have lBe:lnB l=lenM (cntB l) 30 15:=rfl
 rw[←lAe]at nAe
 rw[←lBe]at nBe
 obtain⟨nl,hnl⟩:∃n,n=nA l:=⟨_,rfl⟩
 obtain⟨nd,hnd⟩:∃n,n=nB l:=⟨_,rfl⟩
 obtain⟨F,hF⟩:∃F,F=lnA l:=⟨_,rfl⟩
 obtain⟨G,hG⟩:∃F,F=lnB l:=⟨_,rfl⟩
 rw[←lAe,←hF]at h1
 rw[←lBe,←hG]at h2
 rw[←hnl,←hF]at nAe
 rw[←hnd,←hG]at nBe
 rw[←hnl]at a1 a2
 rw[←hnd]at b1 b2
 rw[←hnl,←hnd,←hF,←hG]
 have H1:=Lib.hid h1;have H2:=Lib.hid h2;have HNA:=Lib.hid nAe;have HNB:=Lib.hid nBe
 clear h1 h2 e1 e2 e3 e4 hr1 hr2 nAe nBe lAe lBe hnl hnd hF hG hg hok
 go_enter Tryz.func88,Tryz.ntmps88
 go_wp2_with fail
 refine H1.out.mono ?_
 rintro e w1 ⟨A1,c1,rfl,hb1,hr1,p1,p2,p3,p4⟩
 have HP4:=Lib.hid p4
 have HB1:=Lib.hid hb1;have HR1:=Lib.hid hr1;have HP3:=Lib.hid p3
 have HL2:=Lib.hid (H2.out w1 hb1)
 clear hb1 hr1 p3 p4 H1 H2
 go_wp2_with fail
 refine HL2.out.mono ?_
 rintro e w2 ⟨A2,c2,rfl,hb2,hr2,q1,q2,q3,q4⟩
 have HQ4:Hid (∀b o,A2=some ⟨b,o,none⟩→w.heap.size≤b):=Lib.hid fun b o e=>Nat.le_trans HB1.out.size (q4 b o e)
 have HR12:=Lib.hid ((HR1.out.below hb2 (Nat.le_refl _)).more hb2.size);have HB2:=Lib.hid (HB1.out.trans (hb2.mono HB1.out.size));have HR2:=Lib.hid hr2;have HQ3:=Lib.hid q3
 clear hb2 hr2 q3 q4 HL2 HB1 HR1
 have hc1:=cut11_any w2 A1 286 c1 F 257 HR12.out p1 (by omega) (by omega)
 have hc2:=cut11_any w2 A2 30 c2 G 1 HR2.out q1 (by omega) (by omega)
 rw[←HNA.out]at hc1
 rw[←HNB.out]at hc2
 have HC1:=Lib.hid hc1;have HC2:=Lib.hid hc2
 clear hc1 hc2
 go_wp2_with fail
 refine HC1.out.mono ?_
 rintro e w3 ⟨rfl,rfl⟩
 go_wp2_with fail
 refine HC2.out.mono ?_
 rintro e w4 ⟨rfl,rfl⟩
 go_wp2
 go_ret2
 exact⟨A1,c1,A2,c2,rfl,⟨HR12.out.part a2,HP3.out,by omega,by unfold maxLen;omega⟩,⟨HR2.out.part b2,HQ3.out,by omega,by unfold maxLen;omega⟩,HP4.out,HQ4.out,HB2.out⟩
theorem check11_any(w:World)(kind:Nat)(A1:Option Addr)(rn rc:Nat)(A2:Option Addr)(m c2:Nat)(l:List Tok)(hkd:kind<256)(hm:m=l.length)(hr:RdT w w.heap.size A2 l)(hm2:m≤1000000)(hrn:rn≤1000000)(hin:∀t∈l,TokIn t):
  Calls Tryz.prog 43 #[.int .u8 (kind:Int),.slice A1 rn rc,.slice A2 m c2] w fun e w'=>e=.returned (.int .i64 (askW kind rn l))∧Below w.heap.size w w':=by
 obtain⟨E,hE⟩:∃E,E=askW kind rn l:=⟨_,rfl⟩
 rw[←hE]
 have HE:=Lib.hid hE;have HR:=Lib.hid hr;have HM:=Lib.hid hm;have HIN:=Lib.hid hin
 have HB0:=Lib.hid (Below.refl w.heap.size w)
 clear hE hr hm hin
 by_cases y0:2<kind
 ·have d0:decide (2<(kind:Int))=true:=by simp;omega
  obtain rfl:E=2:=by rw[HE.out];unfold askW;rw[if_pos y0]
  go_enter Tryz.func43,Tryz.ntmps43
  go_wp2
  go_ret
  exact⟨rfl,HB0.out⟩
 have d0:decide (2<(kind:Int))=false:=decN0 (by omega)
 by_cases y1:65535<rn
 ·have d1:decide (65535<(rn:Int))=true:=decY0 (by omega)
  obtain rfl:E=4:=by rw[HE.out];unfold askW;rw[if_neg y0,if_pos (.inl y1)]
  go_enter Tryz.func43,Tryz.ntmps43
  go_wp2
  go_ret
  exact⟨rfl,HB0.out⟩
 have d1:decide (65535<(rn:Int))=false:=decN0 (by omega)
 by_cases y2:65535<m
 ·have d2:decide (65535<(m:Int))=true:=decY0 (by omega)
  obtain rfl:E=4:=by rw[HE.out];unfold askW;rw[if_neg y0,if_pos (.inr (by rw[←HM.out];exact y2))]
  go_enter Tryz.func43,Tryz.ntmps43
  go_wp2
  go_ret
  exact⟨rfl,HB0.out⟩
 have d2:decide (65535<(m:Int))=false:=decN0 (by omega)
 have hE2:E=if l.all mayT then 0 else 8:=by rw[HE.out];unfold askW;rw[if_neg y0,if_neg (by rw[←HM.out];omega)]
 have HE2:=Lib.hid hE2
 clear hE2 HE
 go_enter Tryz.func43,Tryz.ntmps43
 go_wp2_with fail
 go_loopw [22] (fun iv wr=>∃i:Nat,i≤m∧iv=.int .i64 (i:Int)∧Hid ((l.take i).all mayT=true)∧Hid (Below w.heap.size w wr)) (fun iv _=>m-(intOf iv).toNat)
 case atStart=>exact⟨0,Nat.zero_le _,rfl,Lib.hid (by simp),HB0⟩
 case round=>
  obtain⟨i,hi,rfl,HA,HB⟩:=hrel
  by_cases hlt:i<m
  ·have hlti:(i:Int)<(m:Int):=by omega
   have hil:i<l.length:=by rw[←HM.out];exact hlt
   have htw:=HR.out.below HB.out (Nat.le_refl _)
   obtain⟨b,o,rfl,hbl,hc⟩:=htw.at hil
   have hrg:=htw.range rfl hil
   have hmem:l.getD i tok0∈l:=by rw[List.getD_eq_getElem?_getD,List.getElem?_eq_getElem hil];exact List.getElem_mem hil
   have hti:=HIN.out _ hmem
   have htk:=take_one hil
   obtain⟨t,ht⟩:∃t,t=l.getD i tok0:=⟨_,rfl⟩
   rw[←ht]at hrg hti htk hmem
   obtain⟨W3,hW3⟩:∃W3,W3=mkV wr #[.int .u8 0,.int .i64 0,.int .i64 0] (tokC t).toArray 36:=⟨_,rfl⟩
   have hb3:Below wr.heap.size wr W3:=by rw[hW3];exact mkV_below _ _ _ _
   have hrow:W3.heap[wr.heap.size]?=some (.cells (tokC t).toArray 36 (0,0)):=by rw[hW3];exact mkV_row wr _ _ _
   have htk8:=tok8_any W3 t hti
   have HRG:=Lib.hid hrg;have HB3:=Lib.hid (HB.out.trans (hb3.mono HB.out.size));have HW3:=Lib.hid hW3;have HROW:=Lib.hid hrow;have HTK8:=Lib.hid htk8;have HTK:=Lib.hid htk;have HMEM:=Lib.hid hmem
   clear hrg hb3 hrow hW3 htk ht htw hc hmem hti htk8
   go_wp2_with (first|refine wpList_load_mid rfl _ _ rfl b (o+i*3) rfl (tokC t) _ HRG.out Tryz.underlying36 rfl szTok ?_|refine wpList_store_rowTo rfl _ _ _ rfl rfl wr.heap.size (tokC t).toArray rfl rfl 36 #[.int .u8 0,.int .i64 0,.int .i64 0] (heap_alloc_new wr _) (szTokA _) rfl (tokA_one _) ?_;change wpList _ _ _ _ _ (mkV wr #[.int .u8 0,.int .i64 0,.int .i64 0] (tokC t).toArray 36);rw[←HW3.out]|refine wpList_load_row rfl _ _ rfl wr.heap.size rfl _ (tokC t).toArray (0,0) _ HROW.out Tryz.underlying36 rfl (szTokA _) ?_|fail)
   refine HTK8.out.mono ?_
   rintro e w4 ⟨rfl,hb4⟩
   have HB4:=Lib.hid (HB3.out.trans (hb4.mono HB3.out.size))
   clear hb4
   by_cases hmy:mayT t=true
   ·have e0:tokE t=0:=by unfold tokE;rw[if_pos hmy]
    rw[e0]
    have hall:(l.take (i+1)).all mayT=true:=by rw[HTK.out,List.all_append,HA.out];simp[hmy]
    have HALL:=Lib.hid hall
    clear hall
    go_wp2
    go_roundw
    case rel=>exact⟨i+1,by omega,by go_num,HALL,HB4⟩
    case measure=>simp[intOf];omega
   ·have e0:tokE t=8:=by unfold tokE;rw[if_neg hmy]
    rw[e0]
    obtain rfl:E=8:=by
     rw[HE2.out,if_neg]
     intro h
     exact hmy (List.all_eq_true.1 h t HMEM.out)
    go_wp2
    go_ret
    exact⟨rfl,HB4.out⟩
  ·obtain rfl:i=m:=by omega
   have hlti:¬(i:Int)<(i:Int):=by omega
   have ha:=HA.out
   rw[HM.out,List.take_length]at ha
   obtain rfl:E=0:=by rw[HE2.out,if_pos ha]
   clear ha
   go_wp2
   go_ret
   exact⟨rfl,HB.out⟩
end Go.Proofs.YtgokdgcmkcmjeaaGreat
namespace Go.Proofs.YtgokdgcmkcmjeaaGreat
open Go.RowKit Go.ChangeShapes Go.WideShapes Go.ChangeAt Go.Joins
theorem built_numP(v n:Int):Tryz.prog.built 146 [(0,.int .u32 v),(1,.int .i64 n)]=some #[.int .u32 v,.int .i64 n]:=by kernel_rfl
theorem put_lit(w:World)(S:Nat→Prop)(B g:Nat)(f:Nat→Nat)(K:Nat)(P:List (Nat×Nat))(m:Nat)(hm:m=P.length)(cs:Array Value)(hcs:cs.toList=numsL P)(h:RowAt w S B g f K)(hm2:m≤1000)(hfit:∀x∈P,FitN x)(hk:K+bitsT P≤16000000):
  Calls Tryz.prog 85 #[.pointer (some ⟨g,0,none⟩),.slice (some ⟨w.heap.size,0,none⟩) m m] (w.alloc (.cells cs 146)) fun e w'=>e=.returned (.tuple #[])∧RowAt w' S B g (putsF f K P) (K+bitsT P)∧KpB S w w'∧Below B w w':=by
 have hb:=(Below.refl w.heap.size w).alloc (Nat.le_refl _) (.cells cs 146)
 have hsz:cs.size=m*2:=by rw[←Array.length_toList,hcs,numsL_length,hm]
 have hrd:RdN (w.alloc (.cells cs 146)) (w.alloc (.cells cs 146)).heap.size (some ⟨w.heap.size,0,none⟩) P:=by
  have:=SrcL.new w 2 m cs 146 hsz
  rw[hcs,hm]at this
  exact this
 refine(put11_any _ _ B g f K (some ⟨w.heap.size,0,none⟩) m m P (h.grow hb) hrd (fun b o _ e=>?_) hm hm2 hfit hk).mono fun e w' ⟨h1,h2,h3,h4⟩=>⟨h1,h2.less fun _ k=>.inl k,(KpB.below h.top hb).tr (h3.less fun _ k=>.inl k),(hb.mono h.size).trans h4⟩
 injection e with e
 injection e with e1
 refine .inr ?_
 simp only[World.size_alloc];omega
theorem rowbits_any(w:World)(S:Nat→Prop)(B g:Nat)(f:Nat→Nat)(K:Nat)(h:RowAt w S B g f K)(hK:K≤16000000):
  Calls Tryz.prog 50 #[.pointer (some ⟨g,0,none⟩)] w fun e w'=>e=.returned (.int .i64 (K:Int))∧w'=w.drew:=by
 obtain⟨_,A,c,hq⟩:=h
 obtain⟨z0,_,z2,_,_,_⟩:=hq.cells
 obtain⟨L,hL⟩:∃L,L=K/8:=⟨_,rfl⟩
 obtain⟨q,hqq⟩:∃q,q=K%8:=⟨_,rfl⟩
 rw[←hL]at z0
 rw[←hqq]at z2
 have hKe:K=8*L+q:=by omega
 have hLb:L≤2000000:=by omega
 have hqb:q<8:=by omega
 clear hq hL hqq hK
 subst hKe
 go_enter Tryz.func50,Tryz.ntmps50
 go_wp2
 go_region
 go_wp2
 go_ret
 exact⟨by first|rfl|go_num,rfl⟩
theorem size11_any(w:World)(S:Nat→Prop)(B g:Nat)(f:Nat→Nat)(K n p:Nat)(h:RowAt w S B g f K)(hn:n≤65535)(hK:K≤15000000)(hp:p=(8-K%8)%8):
  Calls Tryz.prog 86 #[.pointer (some ⟨g,0,none⟩),.int .i64 (n:Int)] w fun e w'=>e=.returned (.tuple #[])∧RowAt w' S B g (putsF f K [(0,p),(n,16),(65535-n,16)]) (K+bitsT [(0,p),(n,16),(65535-n,16)])∧KpB S w w'∧Below B w w':=by
 have hp8:p<8:=by omega
 have hbt:bitsT [(0,p),(n,16),(65535-n,16)]=p+32:=by simp[bitsT]
 have hput:=put_lit w S B g f K [(0,p),(n,16),(65535-n,16)] 3 rfl #[.int .u32 0,.int .i64 (p:Int),.int .u32 (n:Int),.int .i64 16,.int .u32 ((65535-n:Nat):Int),.int .i64 16] rfl h (by omega) (fun x hx=>by
  simp only[List.mem_cons,List.not_mem_nil,or_false]at hx
  rcases hx with rfl|rfl|rfl
  ·exact fit_mk (Nat.two_pow_pos _) (by omega)
  ·exact fit_mk (by omega) (by omega)
  ·exact fit_mk (by omega) (by omega)) (by rw[hbt];omega)
 obtain⟨_,A,c,hq⟩:=h
 obtain⟨_,_,z2,_,_,_⟩:=hq.cells
 obtain⟨q,hqq⟩:∃q,q=K%8:=⟨_,rfl⟩
 rw[←hqq]at z2 hp
 have hq8:q<8:=by omega
 have hm1:((8:Int)-(q:Int)).tmod 8=(p:Int):=by rw[Int.tmod_eq_emod_of_nonneg (by omega)];omega
 have hm2:((8:Int)-(q:Int))%8=(p:Int):=by omega
 have hm3:(65535:Int)-(n:Int)=((65535-n:Nat):Int):=by omega
 obtain⟨y,hy⟩:∃y,y=65535-n:=⟨_,rfl⟩
 rw[←hy]at hput hm3⊢
 have hyb:y≤65535:=by omega
 have HPUT:=Lib.hid hput
 clear hput hq hqq hp hbt hy
 go_enter Tryz.func86,Tryz.ntmps86
 go_wp2_with (first
  |(refine wpList_buildTo rfl 146 #[(0,.const (.int .u32 0)),(1,.tmp 12)] rfl (some 13) rfl #[.int .u32 0,.int .i64 (p:Int)] ?_ ?_;focus(simpa[Act.eval]using built_numP 0 (p:Int)))
  |(refine wpList_buildTo rfl 146 #[(0,.tmp 15),(1,.const (.int .i64 16))] rfl (some 16) rfl #[.int .u32 (n:Int),.int .i64 16] ?_ ?_;focus(simpa[Act.eval]using built_numP (n:Int) 16))
  |(refine wpList_buildTo rfl 146 #[(0,.tmp 19),(1,.const (.int .i64 16))] rfl (some 20) rfl #[.int .u32 (y:Int),.int .i64 16] ?_ ?_;focus(simpa[Act.eval]using built_numP (y:Int) 16))
  |fail)
 refine HPUT.out.mono ?_
 rintro e w1 ⟨rfl,h1,h2,h3⟩
 have H1:=Lib.hid h1;have H2:=Lib.hid h2;have H3:=Lib.hid h3
 clear h1 h2 h3
 go_wp2
 go_end0
 exact⟨rfl,H1.out,H2.out,H3.out⟩
end Go.Proofs.YtgokdgcmkcmjeaaGreat
