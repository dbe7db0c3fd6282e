/-
  Words and walks.
-/
import Derived.Test.YtgokdgcmkcmjeaaGreatpram
import Derived.Test.YtgokdgcmkcmjeaaGreatprat
set_option maxRecDepth 100000
set_option maxHeartbeats 16000000
namespace Go.Proofs.YtgokdgcmkcmjeaaGreat
open Go.RowKit
theorem lenR_done{F g:Nat→Nat}{L n k a:Nat}{out:List Nat}(h:n≤out.length):lenR F g L n k a out=(out,a,0):=by
 cases k with
 |zero=>rfl
 |succ k=>rw[lenR_s,if_pos h]
theorem lenR_err{F g:Nat→Nat}{L n k a:Nat}{out:List Nat}(h:¬n≤out.length){p q:Nat}{e:Int}(hr:(p,q,e)=readR F 19 g L a 17 0)(he:e≠0):lenR F g L n (k+1) a out=([],0,e):=by
 rw[lenR_s,if_neg h,←hr];unfold lenG;rw[if_pos he]
theorem lenR_end{F g:Nat→Nat}{L n k a:Nat}{out:List Nat}(h:¬n≤out.length){p q:Nat}(hr:(p,q,(0:Int))=readR F 19 g L a 17 0)(h2:8*L<q+bitsR (p:Int)):lenR F g L n (k+1) a out=([],0,10):=by
 rw[lenR_s,if_neg h,←hr];unfold lenG;rw[if_neg (fun h=>h rfl),if_pos h2]
theorem lenR_bad{F g:Nat→Nat}{L n k a:Nat}{out:List Nat}(h:¬n≤out.length){p q:Nat}(hr:(p,q,(0:Int))=readR F 19 g L a 17 0)(h2:¬8*L<q+bitsR (p:Int)){v:Nat}(hv:v=numN g q (bitsR (p:Int)))(h3:((p:Int)=16∧out=[])∨n<out.length+timesR (p:Int) (v:Int)):lenR F g L n (k+1) a out=([],0,132):=by
 rw[lenR_s,if_neg h,←hr];unfold lenG;rw[if_neg (fun h=>h rfl),if_neg h2]
 simp only[]
 rw[←hv,if_pos h3]
theorem lenR_go{F g:Nat→Nat}{L n k a:Nat}{out:List Nat}(h:¬n≤out.length){p q:Nat}(hr:(p,q,(0:Int))=readR F 19 g L a 17 0)(h2:¬8*L<q+bitsR (p:Int)){v:Nat}(hv:v=numN g q (bitsR (p:Int)))(h3:¬(((p:Int)=16∧out=[])∨n<out.length+timesR (p:Int) (v:Int))):
  lenR F g L n (k+1) a out=lenR F g L n k (q+bitsR (p:Int)) (out++List.replicate (timesR (p:Int) (v:Int)) (valR (p:Int) out)):=by
 rw[lenR_s,if_neg h,←hr];unfold lenG;rw[if_neg (fun h=>h rfl),if_neg h2]
 simp only[]
 rw[←hv,if_neg h3]
def LenD(base:Nat)(R:List Nat×Nat×Int)(e:Ending)(w':World):Prop:=
 ∃Ao co,e=.returned (.tuple #[.slice Ao R.1.length co,.int .i64 (R.2.1:Int),.int .i64 R.2.2])∧NewY w' base Ao R.1.length co (lst R.1)
theorem LenD.none{base:Nat}{R:List Nat×Nat×Int}{w':World}{x:Int}(h:R=([],0,x)):LenD base R (.returned (.tuple #[.slice none 0 0,.int .i64 0,.int .i64 x])) w':=by
 subst h
 exact⟨.none,0,rfl,NewY.nil _ _ fun j=>by unfold lst;simp⟩
def lenW:Value→Nat
 | .slice _ n _=>n
 |_=>0
theorem rlen13_any(w:World)(Ac:Option Addr)(cc:Nat)(F:Nat→Nat)(hc:RdB w w.heap.size Ac 19 F)(hF:CodeOk F 19)(A:Option Addr)(l c:Nat)(g:Nat→Nat)(hg:RdB w w.heap.size A l g)(hl:l≤1000000)(a N:Nat)(ha:a≤8*l)(hN:N≤320):
  Calls Tryz.prog 100 #[.slice Ac 19 cc,.slice A l c,.int .i64 (a:Int),.int .i64 (N:Int)] w fun e w'=>LenD w.heap.size (lenR F g l N N a []) e w'∧Below w.heap.size w w':=by
 obtain⟨R,hR⟩:∃R,R=lenR F g l N N a []:=⟨_,rfl⟩
 rw[←hR]
 have HMK:=Lib.hid (made13 w Ac 19 cc F hc hF)
 have HG:=Lib.hid hg;have HF:=Lib.hid hF;have HRR:=Lib.hid hR
 clear hc hg hF hR
 go_enter Tryz.func100,Tryz.ntmps100
 go_wp2_with fail
 refine HMK.out.mono ?_
 rintro e w2 ⟨rfl,hb2,hcod⟩
 have HB2:=Lib.hid hb2;have HCOD:=Lib.hid hcod
 obtain⟨h,hh⟩:∃h,h=w.heap.size:=⟨_,rfl⟩
 obtain⟨B,hB⟩:∃B,B=w2.heap.size:=⟨_,rfl⟩
 have HBB:=Lib.hid hB;have HH:=Lib.hid hh
 rw[←hh]
 clear hb2 hcod hB hh HMK
 go_wp2
 go_loopw [2,12] (fun av ov wr=>∃(k q a':Nat) (At:Option Addr) (ct:Nat) (L:List Nat),q≤N∧av=.int .i64 (a':Int)∧ov=.slice At q ct∧N≤q+k∧a'≤8*l∧Hid (q=L.length)∧Hid (lenR F g l N k a' L=R)∧Hid (∀x∈L,x<256)∧Hid (wr.ownsRow B 5 1 (.slice At q ct) q (bytesL q (lst L)))∧Hid (Below B w2 wr)) (fun _ ov _=>N-lenW ov)
 case atStart=>exact⟨N,0,a,none,0,[],Nat.zero_le _,rfl,rfl,by omega,ha,Lib.hid rfl,Lib.hid HRR.out.symm,Lib.hid (fun x hx=>by cases hx),Lib.hid (World.ownsRow_nil _ _ _ _),Lib.hid (Below.refl _ _)⟩
 case round=>
  obtain⟨k,q,a',At,ct,L,hqN,rfl,rfl,hk,ha',HQ,HR,HL,HW,HB⟩:=hrel
  have HBW:Hid (Below w.heap.size w wr):=Lib.hid (HB2.out.trans (HB.out.mono (by rw[HBB.out];exact HB2.out.size)))
  by_cases hlt:q<N
  ·have hlti:(q:Int)<(N:Int):=by omega
   obtain⟨k',rfl⟩:∃k',k=k'+1:=⟨k-1,by omega⟩
   have hno:¬N≤L.length:=by rw[←HQ.out];omega
   obtain⟨P,hP⟩:∃P,P=readR F 19 g l a' 17 0:=⟨_,rfl⟩
   have hin:=read_in (F:=F) (N:=19) (g:=g) (L:=l) ha'
   rw[←hP]at hin
   have hrc:RdC wr wr.heap.size (some ⟨h,0,none⟩) 19 (codeB (extF 19 F) 19) (extF 19 F):=by
    have:=(HCOD.out.below HB.out (by rw[HBB.out];exact Nat.le_refl _)).more (by have:=HB.out.size;exact this)
    rw[HH.out];exact this
   have hrd:=read13 wr (some ⟨h,0,none⟩) 19 19 F hrc HF.out A l c g ((HG.out.below HBW.out (Nat.le_refl _)).more HBW.out.size) hl a' (by omega)
   rw[←hP]at hrd
   have HRD:=Lib.hid hrd;have HP:=Lib.hid hP;have HIN:=Lib.hid hin;have HNO:=Lib.hid hno
   obtain⟨p1,p2,p3⟩:=P
   clear hrc hrd hP hin hno
   by_cases y0:p3=0
   case neg=>
    have z0:(p3 !=0)=true:=by simpa using y0
    have hres:R=([],0,p3):=by rw[←HR.out];exact lenR_err HNO.out HP.out y0
    have HRES:=Lib.hid hres
    clear y0 hres
    go_wp2_with fail
    refine HRD.out.mono ?_
    rintro e w3 ⟨rfl,hb3⟩
    have HB3:=Lib.hid (HBW.out.trans (hb3.mono HBW.out.size))
    clear hb3
    simp only[RdOut]
    go_wp2
    refine bodyPost_ret (results_tmp3 rfl _ _ _) rfl ?_
    rw[HH.out]
    exact⟨LenD.none HRES.out,HB3.out⟩
   subst y0
   have z0:((0:Int) !=0)=false:=rfl
   have i2:p2≤8*l:=(HIN.out rfl).2.1
   have i3:p1<19:=(HIN.out rfl).2.2
   have ebv:bitV (p1:Int)=((bitsR (p1:Int):Nat):Int):=by unfold bitV;rw[if_pos (by omega)]
   have HBI:=Lib.hid fun V=>rbits10_any V (p1:Int)
   rw[ebv]at HBI
   have hnb:=bitsR_le' (p1:Int)
   obtain⟨nb,hnb2⟩:∃x,x=bitsR (p1:Int):=⟨_,rfl⟩
   rw[←hnb2]at HBI hnb
   obtain⟨bE,hbE⟩:∃x,x=bitE (p1:Int):=⟨_,rfl⟩
   rw[←hbE]at HBI
   have HNB:=Lib.hid hnb2
   obtain⟨t1,t2⟩:=take13 (g:=g) (l:=l) (a:=p2) (n:=nb) (by omega)
   have hTK:∀V,Below w.heap.size w V→Calls Tryz.prog 57 #[.slice A l c,.int .i64 (p2:Int),.int .i64 (nb:Int)] V fun e w'=>e=.returned (.tuple #[.int .u32 (takeV g l (p2:Int) (nb:Int):Nat),.int .i64 (takeE l (p2:Int) (nb:Int))])∧V=w':=fun V hV=>rtake_any V V.heap.size A l c g (p2:Int) (nb:Int) ((HG.out.below hV (Nat.le_refl _)).more hV.size) (by omega) (by omega)
   rw[t1]at hTK
   clear ebv hnb2 hbE t1
   by_cases y1:8*l<p2+nb
   ·rw[if_pos y1]at hTK
    obtain⟨TV,hTV⟩:∃v,v=takeV g l (p2:Int) (nb:Int):=⟨_,rfl⟩
    rw[←hTV]at hTK
    have HTK:=Lib.hid hTK
    have hres:R=([],0,10):=by rw[←HR.out];exact lenR_end HNO.out HP.out (by rw[←HNB.out];exact y1)
    have HRES:=Lib.hid hres
    clear y1 hres hTK hTV t2
    go_wp2_with fail
    refine HRD.out.mono ?_
    rintro e w3 ⟨rfl,hb3⟩
    have HB3:=Lib.hid (HBW.out.trans (hb3.mono HBW.out.size))
    clear hb3
    simp only[RdOut]
    go_wp2_with fail
    refine(HBI.out w3).mono ?_
    rintro e w4 ⟨rfl,rfl⟩
    go_wp2_with fail
    refine(HTK.out w3 HB3.out).mono ?_
    rintro e w4 ⟨rfl,rfl⟩
    go_wp2
    refine bodyPost_ret (results_tmp3 rfl _ _ _) rfl ?_
    rw[HH.out]
    exact⟨LenD.none HRES.out,HB3.out⟩
   rw[if_neg y1,t2 y1]at hTK
   have hv128:numN g p2 nb<128:=Nat.lt_of_lt_of_le (numN_lt g p2 nb) (Nat.le_trans (Nat.pow_le_pow_right (by omega) hnb) (by decide))
   obtain⟨v,hv⟩:∃v,v=numN g p2 nb:=⟨_,rfl⟩
   rw[←hv]at hTK hv128
   have HTK:=Lib.hid hTK
   have HV:Hid (v=numN g p2 (bitsR (p1:Int))):=Lib.hid (by rw[←HNB.out];exact hv)
   have HY1:Hid (¬8*l<p2+bitsR (p1:Int)):=Lib.hid (by rw[←HNB.out];exact y1)
   have HTM:=Lib.hid fun V=>rtimes10_any V (p1:Int) v (by omega)
   have ht1:=times_pos (p1:Int) (v:Int)
   have ht2:timesR (p1:Int) (v:Int)≤138:=by unfold timesR;split;omega;split<;>omega
   obtain⟨T,hT⟩:∃x,x=timesR (p1:Int) (v:Int):=⟨_,rfl⟩
   rw[←hT]at HTM ht1 ht2
   have HT:=Lib.hid hT
   have hplace:p2+nb≤8*l:=by omega
   clear t2 hTK hv hT
   have htw:T+q≤N∨N<q+T:=by omega
   obtain⟨AH,hAH⟩:∃x,x=((p1:Int)==16):=⟨_,rfl⟩
   rw[←hAH]at HTM
   have HAH:=Lib.hid hAH
   clear hAH y1
   go_wp2_with fail
   refine HRD.out.mono ?_
   rintro e w3 ⟨rfl,hb3⟩
   have HB3:=Lib.hid (HBW.out.trans (hb3.mono HBW.out.size))
   have HK3:=Lib.hid hb3
   clear hb3
   simp only[RdOut]
   go_wp2_with fail
   refine(HBI.out w3).mono ?_
   rintro e w4 ⟨rfl,rfl⟩
   go_wp2_with fail
   refine(HTK.out w3 HB3.out).mono ?_
   rintro e w4 ⟨rfl,rfl⟩
   go_wp2_with (first|(refine wpList_buildTo rfl 208 #[(0,.tmp 60),(1,.tmp 62)] rfl (some 63) rfl #[.int .i64 (p1:Int),.int .i64 (v:Int)] ?_ ?_;focus(simpa[Act.eval]using built_run (p1:Int) (v:Int)))|fail)
   refine(HTM.out w3).mono ?_
   rintro e w4 ⟨rfl,hb4⟩
   have HB4:=Lib.hid (HB3.out.trans (hb4.mono HB3.out.size))
   have hbw4:Below wr.heap.size wr w4:=HK3.out.trans (hb4.mono HK3.out.size)
   have HW4:Hid (w4.ownsRow B 5 1 (.slice At q ct) q (bytesL q (lst L))):=Lib.hid (own_keep HW.out hbw4)
   have HBB4:Hid (Below B w2 w4):=Lib.hid (HB.out.trans (hbw4.mono (by rw[HBB.out];exact HB.out.size)))
   clear hb4 hbw4
   by_cases h16:p1=16
   case pos=>
    have eah:AH=true:=by rw[HAH.out,h16];rfl
    subst eah
    by_cases hq0:q=0
    ·have hLn:L=[]:=List.length_eq_zero_iff.1 (by rw[←HQ.out];exact hq0)
     have hres:R=([],0,132):=by rw[←HR.out];exact lenR_bad HNO.out HP.out HY1.out HV.out (.inl ⟨by subst h16;rfl,hLn⟩)
     have HRES:=Lib.hid hres
     have zq:((q:Int)==0)=true:=by simp[hq0]
     clear hres hLn hq0 h16 hplace htw
     go_wp2
     refine bodyPost_ret (results_tmp3 rfl _ _ _) rfl ?_
     rw[HH.out]
     exact⟨LenD.none HRES.out,HB4.out⟩
    have zq:((q:Int)==0)=false:=by simp;omega
    obtain⟨qt,hqt⟩:∃qt,qt=q+T:=⟨_,rfl⟩
    have eqt:(q:Int)+(T:Int)=(qt:Int):=by omega
    by_cases hro:N<qt
    ·have hres:R=([],0,132):=by rw[←HR.out];exact lenR_bad HNO.out HP.out HY1.out HV.out (.inr (by rw[←HQ.out,←HT.out,←hqt];exact hro))
     have HRES:=Lib.hid hres
     have dr:(N:Int)<(qt:Int):=by omega
     clear hres hq0 h16 hplace htw hqt
     go_wp2
     refine bodyPost_ret (results_tmp3 rfl _ _ _) rfl ?_
     rw[HH.out]
     exact⟨LenD.none HRES.out,HB4.out⟩
    have dr:¬(N:Int)<(qt:Int):=by omega
    have dr2:decide (N<qt)=false:=decN0 (by omega)
    have hqtl:q+T≤N:=by omega
    obtain⟨V,hVd⟩:∃x,x=valR (p1:Int) L:=⟨_,rfl⟩
    have hnx:lenR F g l N k' (p2+nb) (L++List.replicate T V)=R:=by
     rw[←HR.out,lenR_go HNO.out HP.out HY1.out HV.out (by rintro(⟨_,g⟩|g);exact hq0 (by rw[HQ.out,g];rfl);rw[←HQ.out,←HT.out]at g;omega),←HNB.out,←HT.out,←hVd]
    have HNX:=Lib.hid hnx
    have hv3:V=L.getLast?.getD 0:=by rw[hVd];unfold valR;rw[if_pos (by omega)]
    rw[last_lst,←HQ.out]at hv3
    have hV256:V<256:=by rw[hv3];exact lst_lt HL.out _
    have HLR:Hid (∀j,∀x∈L++List.replicate j V,x<256):=Lib.hid fun j x hx=>(List.mem_append.1 hx).elim (HL.out x) fun h=>by rw[(List.mem_replicate.1 h).2];exact hV256
    obtain⟨z,hz⟩:∃z,z=q-1:=⟨_,rfl⟩
    have ez:(q:Int)-1=(z:Int):=by omega
    have hzq:(z:Int)<(q:Int):=by omega
    have hz0:(0:Int)≤(z:Int):=by omega
    rw[←hz]at hv3
    have HV3:=Lib.hid hv3
    obtain⟨b2,o2,rfl,_,hcc⟩:=(ByR.of_own HW4.out (lst_lt HL.out)).1.2 (by omega)
    have z9:=hcc z (by omega)
    rw[←HV3.out]at z9
    clear hcc hnx hVd hv3 hz hqt hq0 h16 htw hro
    obtain⟨wo,rfl⟩:∃wo:World,wo=w4:=⟨_,rfl⟩
    go_wp2
    go_loopw [12,23] (fun ov kv wr=>∃(j p:Nat) (Ai:Option Addr) (ci:Nat),j≤T∧p=q+j∧ov=.slice Ai p ci∧kv=.int .i64 (j:Int)∧Hid (wr.ownsRow B 5 1 (.slice Ai p ci) p (bytesL p (lst (L++List.replicate j V))))∧Hid (Below B w2 wr)) (fun _ kv _=>T-(intOf kv).toNat)
    case atStart=>exact⟨0,q,some ⟨b2,o2,none⟩,ct,Nat.zero_le _,rfl,rfl,rfl,Lib.hid (by rw[List.replicate_zero,List.append_nil];exact HW4.out),HBB4⟩
    case round=>
     obtain⟨j,p,Ai,ci,hj,hpj,rfl,rfl,HWI,HBI2⟩:=hrel
     by_cases hjl:j<T
     ·have hjli:(j:Int)<(T:Int):=by omega
      obtain⟨r1,r2⟩:=rep_one L j V
      rw[←HQ.out,←hpj]at r1 r2
      obtain⟨A',c',w',hr2,ho2,hb2⟩:=run_oneB wr B Ai p ci (lst (L++List.replicate (j+1) V)) (lst_lt (HLR.out _)) (by rw[←r1];exact HWI.out) V r2.symm (by omega) (by rw[HBB.out];exact(by have:=HBI2.out.size;omega:w2.heap.size≤wr.heap.size))
      have HR2:=Lib.hid hr2;have HO2':=Lib.hid ho2;have HB2':=Lib.hid (HBI2.out.trans hb2)
      have hpj2:p+1=q+(j+1):=by omega
      have HPJ:=Lib.hid hpj2
      have hpb:p≤1000:=by omega
      clear hr2 ho2 hb2 r1 r2 hpj hpj2
      go_wp2_with (at_builtin;refine wpList_append_run rfl (.tmp 97) (.tmp 99) 22 rfl (.slice Ai p ci) (.slice (some ⟨wr.heap.size,0,none⟩) 1 1) (.slice A' (p+1) c') w' rfl rfl HR2.out ?_)
      go_roundw
      case rel=>exact⟨j+1,p+1,A',c',by omega,HPJ.out,rfl,by go_num,HO2',HB2'⟩
      case measure=>simp[intOf];omega
     ·obtain rfl:j=T:=by omega
      have hjli:¬(j:Int)<(j:Int):=by omega
      have HQQ:Hid (p=(L++List.replicate j V).length):=Lib.hid (by rw[List.length_append,List.length_replicate,←HQ.out];exact hpj)
      have hpN:p≤N:=by omega
      have hpk:N≤p+k':=by omega
      have hdec:N-p<N-q:=by omega
      have HLRj:=Lib.hid (HLR.out j)
      go_wp2
      go_roundw
      case rel=>exact⟨k',p,p2+nb,Ai,ci,L++List.replicate j V,hpN,by go_num,rfl,hpk,hplace,HQQ,HNX,HLRj,HWI,HBI2⟩
      case measure=>exact hdec
   case neg=>
    have eah:AH=false:=by rw[HAH.out];simp;omega
    subst eah
    obtain⟨qt,hqt⟩:∃qt,qt=q+T:=⟨_,rfl⟩
    have eqt:(q:Int)+(T:Int)=(qt:Int):=by omega
    by_cases hro:N<qt
    ·have hres:R=([],0,132):=by rw[←HR.out];exact lenR_bad HNO.out HP.out HY1.out HV.out (.inr (by rw[←HQ.out,←HT.out,←hqt];exact hro))
     have HRES:=Lib.hid hres
     have dr:(N:Int)<(qt:Int):=by omega
     clear hres h16 hplace htw hqt
     go_wp2
     refine bodyPost_ret (results_tmp3 rfl _ _ _) rfl ?_
     rw[HH.out]
     exact⟨LenD.none HRES.out,HB4.out⟩
    have dr:¬(N:Int)<(qt:Int):=by omega
    have dr2:decide (N<qt)=false:=decN0 (by omega)
    have hqtl:q+T≤N:=by omega
    obtain⟨V,hVd⟩:∃x,x=valR (p1:Int) L:=⟨_,rfl⟩
    have hnx:lenR F g l N k' (p2+nb) (L++List.replicate T V)=R:=by
     rw[←HR.out,lenR_go HNO.out HP.out HY1.out HV.out (by rintro(⟨g,_⟩|g);exact h16 (by omega);rw[←HQ.out,←HT.out]at g;omega),←HNB.out,←HT.out,←hVd]
    have HNX:=Lib.hid hnx
    have hv3:V=if p1<16 then p1 else 0:=by
     rw[hVd];unfold valR;rw[if_neg (by omega)]
     by_cases h:p1<16
     ·rw[if_pos h,if_pos (by omega)];omega
     ·rw[if_neg h,if_neg (by omega)]
    have hV256:V<256:=by rw[hv3];split<;>omega
    have HLR:Hid (∀j,∀x∈L++List.replicate j V,x<256):=Lib.hid fun j x hx=>(List.mem_append.1 hx).elim (HL.out x) fun h=>by rw[(List.mem_replicate.1 h).2];exact hV256
    clear hnx hVd hqt htw hro
    by_cases hlo:p1<16
    ·rw[if_pos hlo]at hv3
     subst hv3
     have dlo:decide ((V:Int)<16)=true:=decY (by omega)
     have dlo2:(V:Int)<16:=by omega
     have hmm:(V:Int)%256=(V:Int):=by omega
     have hmw:IntKind.u8.wrap (V:Int)=(V:Int):=by rw[IntKind.wrap_u8];omega
     clear h16
     obtain⟨wo,rfl⟩:∃wo:World,wo=w4:=⟨_,rfl⟩
     go_wp2
     go_loopw [12,23] (fun ov kv wr=>∃(j p:Nat) (Ai:Option Addr) (ci:Nat),j≤T∧p=q+j∧ov=.slice Ai p ci∧kv=.int .i64 (j:Int)∧Hid (wr.ownsRow B 5 1 (.slice Ai p ci) p (bytesL p (lst (L++List.replicate j V))))∧Hid (Below B w2 wr)) (fun _ kv _=>T-(intOf kv).toNat)
     case atStart=>exact⟨0,q,At,ct,Nat.zero_le _,rfl,rfl,rfl,Lib.hid (by rw[List.replicate_zero,List.append_nil];exact HW4.out),HBB4⟩
     case round=>
      obtain⟨j,p,Ai,ci,hj,hpj,rfl,rfl,HWI,HBI2⟩:=hrel
      by_cases hjl:j<T
      ·have hjli:(j:Int)<(T:Int):=by omega
       obtain⟨r1,r2⟩:=rep_one L j V
       rw[←HQ.out,←hpj]at r1 r2
       obtain⟨A',c',w',hr2,ho2,hb2⟩:=run_oneB wr B Ai p ci (lst (L++List.replicate (j+1) V)) (lst_lt (HLR.out _)) (by rw[←r1];exact HWI.out) V r2.symm (by omega) (by rw[HBB.out];exact(by have:=HBI2.out.size;omega:w2.heap.size≤wr.heap.size))
       have HR2:=Lib.hid hr2;have HO2':=Lib.hid ho2;have HB2':=Lib.hid (HBI2.out.trans hb2)
       have hpj2:p+1=q+(j+1):=by omega
       have HPJ:=Lib.hid hpj2
       have hpb:p≤1000:=by omega
       clear hr2 ho2 hb2 r1 r2 hpj hpj2
       go_wp2_with (at_builtin;refine wpList_append_run rfl (.tmp 97) (.tmp 99) 22 rfl (.slice Ai p ci) (.slice (some ⟨wr.heap.size,0,none⟩) 1 1) (.slice A' (p+1) c') w' rfl rfl HR2.out ?_)
       go_roundw
       case rel=>exact⟨j+1,p+1,A',c',by omega,HPJ.out,rfl,by go_num,HO2',HB2'⟩
       case measure=>simp[intOf];omega
      ·obtain rfl:j=T:=by omega
       have hjli:¬(j:Int)<(j:Int):=by omega
       have HQQ:Hid (p=(L++List.replicate j V).length):=Lib.hid (by rw[List.length_append,List.length_replicate,←HQ.out];exact hpj)
       have hpN:p≤N:=by omega
       have hpk:N≤p+k':=by omega
       have hdec:N-p<N-q:=by omega
       have HLRj:=Lib.hid (HLR.out j)
       go_wp2
       go_roundw
       case rel=>exact⟨k',p,p2+nb,Ai,ci,L++List.replicate j V,hpN,by go_num,rfl,hpk,hplace,HQQ,HNX,HLRj,HWI,HBI2⟩
       case measure=>exact hdec
    ·rw[if_neg hlo]at hv3
     subst hv3
     have dlo:decide ((p1:Int)<16)=false:=decN (by omega)
     have dlo2:¬(p1:Int)<16:=by omega
     clear h16
     obtain⟨wo,rfl⟩:∃wo:World,wo=w4:=⟨_,rfl⟩
     go_wp2
     go_loopw [12,23] (fun ov kv wr=>∃(j p:Nat) (Ai:Option Addr) (ci:Nat),j≤T∧p=q+j∧ov=.slice Ai p ci∧kv=.int .i64 (j:Int)∧Hid (wr.ownsRow B 5 1 (.slice Ai p ci) p (bytesL p (lst (L++List.replicate j 0))))∧Hid (Below B w2 wr)) (fun _ kv _=>T-(intOf kv).toNat)
     case atStart=>exact⟨0,q,At,ct,Nat.zero_le _,rfl,rfl,rfl,Lib.hid (by rw[List.replicate_zero,List.append_nil];exact HW4.out),HBB4⟩
     case round=>
      obtain⟨j,p,Ai,ci,hj,hpj,rfl,rfl,HWI,HBI2⟩:=hrel
      by_cases hjl:j<T
      ·have hjli:(j:Int)<(T:Int):=by omega
       obtain⟨r1,r2⟩:=rep_one L j 0
       rw[←HQ.out,←hpj]at r1 r2
       obtain⟨A',c',w',hr2,ho2,hb2⟩:=run_oneB wr B Ai p ci (lst (L++List.replicate (j+1) 0)) (lst_lt (HLR.out _)) (by rw[←r1];exact HWI.out) 0 r2.symm (by omega) (by rw[HBB.out];exact(by have:=HBI2.out.size;omega:w2.heap.size≤wr.heap.size))
       have HR2:=Lib.hid hr2;have HO2':=Lib.hid ho2;have HB2':=Lib.hid (HBI2.out.trans hb2)
       have hpj2:p+1=q+(j+1):=by omega
       have HPJ:=Lib.hid hpj2
       have hpb:p≤1000:=by omega
       clear hr2 ho2 hb2 r1 r2 hpj hpj2
       go_wp2_with (at_builtin;refine wpList_append_run rfl (.tmp 97) (.tmp 99) 22 rfl (.slice Ai p ci) (.slice (some ⟨wr.heap.size,0,none⟩) 1 1) (.slice A' (p+1) c') w' rfl rfl HR2.out ?_)
       go_roundw
       case rel=>exact⟨j+1,p+1,A',c',by omega,HPJ.out,rfl,by go_num,HO2',HB2'⟩
       case measure=>simp[intOf];omega
      ·obtain rfl:j=T:=by omega
       have hjli:¬(j:Int)<(j:Int):=by omega
       have HQQ:Hid (p=(L++List.replicate j 0).length):=Lib.hid (by rw[List.length_append,List.length_replicate,←HQ.out];exact hpj)
       have hpN:p≤N:=by omega
       have hpk:N≤p+k':=by omega
       have hdec:N-p<N-q:=by omega
       have HLRj:=Lib.hid (HLR.out j)
       go_wp2
       go_roundw
       case rel=>exact⟨k',p,p2+nb,Ai,ci,L++List.replicate j 0,hpN,by go_num,rfl,hpk,hplace,HQQ,HNX,HLRj,HWI,HBI2⟩
       case measure=>exact hdec
  ·obtain rfl:q=N:=by omega
   have hlti:¬(q:Int)<(q:Int):=by omega
   have hfin:R=(L,a',0):=by rw[←HR.out,lenR_done (by rw[←HQ.out];exact Nat.le_refl _)]
   have HFIN:=Lib.hid hfin
   clear hfin
   go_wp2
   refine bodyPost_ret (results_tmp3 rfl _ _ _) rfl ?_
   rw[HH.out]
   refine⟨?_,HBW.out⟩
   have h1:=(NewY.of_own HW.out (lst_lt HL.out)).mono (show w.heap.size≤B by rw[HBB.out];exact HB2.out.size)
   have h2:=HQ.out
   have h3:=HFIN.out
   subst h3
   exact⟨At,ct,by show _=Ending.returned (.tuple #[.slice At L.length ct,.int .i64 (a':Int),.int .i64 0]);rw[←h2];rfl,by show NewY _ _ At L.length ct (lst L);rw[←h2];exact h1⟩
end Go.Proofs.YtgokdgcmkcmjeaaGreat
